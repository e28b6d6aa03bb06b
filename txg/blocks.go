package txg

import (
	"bytes"
	"slices"

	"charterhouse/api"
	"charterhouse/code"
	"charterhouse/ptr"
)

const (
	rootMark   = 82                                     // what the root's block begins with
	ptrSize    = 16                                     // bytes of a pointer, and of what the root's block has ahead of its pointers
	lineSize   = 48                                     // bytes of a line
	inBlock    = 5                                      // lines of a block
	lineBlocks = (api.MaxLines + inBlock - 1) / inBlock // blocks of lines, at most
	lineRootAt = 12                                     // where a line's Root stands, behind its numbers
	lineDeadAt = lineRootAt + ptrSize                   // and the pointer to its dead list
	lineEnd    = lineDeadAt + ptrSize                   // and its noughts
)

// laidLine is a line, and the pointer to its dead list.
type laidLine struct {
	api.Line
	dead api.Ptr
}

// trunk is what the root's block tells.
type trunk struct {
	nextId   int
	nextGuid uint32
	many     int       // lines
	lines    []api.Ptr // of their blocks
	keys     api.Ptr
}

// trunkSizes are those of the numbers of the root's block: its mark, NextId, NextGuid, how many lines.
func trunkSizes() []int { return []int{1, 2, 4, 1} }

// lineSizes are those of a line's numbers, in the order in which they stand.
func lineSizes() []int { return []int{1, 1, 1, 1, 3, 4, 1} }

// put tells the bytes of numbers of these sizes.
func put(sizes []int, numbers ...int) (b []byte, e api.Errno) {
	for i, size := range sizes {
		one, e := code.Put(numbers[i], size)
		if e != api.OK {
			return nil, e
		}
		b = append(b, one...)
	}
	return b, api.OK
}

// get is asked for bytes that are long enough alone: Get refuses none.
func get(b []byte, sizes []int) (numbers []int) {
	at := 0
	for _, size := range sizes {
		n, _ := code.Get(b, at, size)
		numbers = append(numbers, n)
		at += size
	}
	return numbers
}

// blocksOf tells how many blocks so many lines need: one at least.
func blocksOf(many int) int {
	return max(1, (many+inBlock-1)/inBlock)
}

// block tells the root's block. It is a row of pointers, the first of which is none: what else it tells stands in its place. It is asked of what may be alone, or was read: neither put nor Row refuses any.
func (t trunk) block() []byte {
	head, _ := put(trunkSizes(), rootMark, t.nextId, int(t.nextGuid), t.many)
	row := make([]api.Ptr, 1+lineBlocks+1)
	copy(row[1:], t.lines)
	row[1+lineBlocks] = t.keys
	block, _ := ptr.Row(row)
	copy(block, head)
	return block
}

// trunkOf tells what the root's block is to tell, if it is one. That it is made once more, and held against block as a whole, asks for its first byte and all noughts.
func trunkOf(block []byte) (trunk, api.Errno) {
	row, e := ptr.Rows(slices.Concat(make([]byte, ptrSize), block[ptrSize:]))
	numbers := get(block, trunkSizes())
	many := numbers[3]
	if e != api.OK || many > api.MaxLines {
		return trunk{}, api.ErrBad
	}
	t := trunk{nextId: numbers[1], nextGuid: uint32(numbers[2]), many: many, lines: row[1 : 1+blocksOf(many)], keys: row[1+lineBlocks]}
	if !bytes.Equal(t.block(), block) || slices.Contains(t.lines, api.Ptr{}) || !isThere(t.keys) {
		return trunk{}, api.ErrBad
	}
	return t, api.OK
}

// linesBlock is asked for lines that may be alone, or were read: neither put nor Row refuses any. Behind its pointers, a row has the line's noughts, too.
func linesBlock(l []laidLine) []byte {
	block := make([]byte, 0, api.Size)
	for _, x := range l {
		numbers, _ := put(lineSizes(), x.Id, int(x.Kind), x.Owner, x.Prev, int(x.Txg), int(x.Guid), x.Key)
		row, _ := ptr.Row([]api.Ptr{x.Root, x.dead})
		block = slices.Concat(block, numbers, row[:lineSize-lineRootAt])
	}
	return filled(block)
}

// linesOf tells so many lines as block is to have, if it is one of just these.
func linesOf(block []byte, many int) ([]laidLine, api.Errno) {
	var l []laidLine
	for b := range slices.Chunk(block[:many*lineSize], lineSize) {
		x, e := lineIn(b)
		if e != api.OK {
			return nil, api.ErrBad
		}
		l = append(l, x)
	}
	if !bytes.Equal(linesBlock(l), block) {
		return nil, api.ErrBad
	}
	return l, api.OK
}

// lineIn asks only whether the pointers may be. Whether the line may be hangs on all others.
func lineIn(b []byte) (x laidLine, e api.Errno) {
	if x.Root, e = ptr.Read(b[lineRootAt:lineDeadAt]); e != api.OK {
		return
	}
	if x.dead, e = ptr.Read(b[lineDeadAt:lineEnd]); e != api.OK {
		return
	}
	n := get(b, lineSizes())
	x.Id, x.Kind, x.Owner, x.Prev = n[0], uint8(n[1]), n[2], n[3]
	x.Txg, x.Guid, x.Key = uint32(n[4]), uint32(n[5]), n[6]
	return
}

// keysBlock is asked for eight keys, each of which is as long as it may be, or none.
func keysBlock(keys [][]byte) []byte {
	block := make([]byte, 0, api.Size)
	for _, key := range keys {
		block = slices.Concat(block, key, make([]byte, api.WrapSize-len(key)))
	}
	return filled(block)
}

// keysOf tells the eight keys that block has, if it is one of keys. They are memory of their own.
func keysOf(block []byte) ([][]byte, api.Errno) {
	var keys [][]byte
	for b := range slices.Chunk(block[:api.Keys*api.WrapSize], api.WrapSize) {
		if isNought(b) {
			b = nil
		}
		keys = append(keys, bytes.Clone(b))
	}
	if !bytes.Equal(keysBlock(keys), block) {
		return nil, api.ErrBad
	}
	return keys, api.OK
}

// filled tells b with noughts behind it, as long as a block is.
func filled(b []byte) []byte {
	return slices.Concat(b, make([]byte, api.Size-len(b)))
}
