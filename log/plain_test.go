package log_test

import (
	"bytes"
	"fmt"
	"maps"
	"math/bits"
	"slices"

	"charterhouse/api"
)

// What stands here is chapter 18, and what it needs of those ahead of it, read plainly and without the project's packages. Of a pool nothing is asked here but what the chapter itself asks: tests that hand in one that may not be say so.

// The marks of a table, and the edges of numbers, as the document has them.
const (
	unused     = 0
	used       = 1
	later      = 2
	isHead     = 1
	isSnap     = 2
	head       = 15
	logFirst   = 4
	logBlocks  = 8
	inBlock    = 12
	firstBlock = 12
	lastBlock  = 255
	mostWaits  = 4096
	mostTxg    = 1<<24 - 1
	mostCount  = 65535
)

var none = api.Ptr{}

// slowTurn turns four words, as chapter 2 says it, n times.
func slowTurn(x [4]uint32, n int) [4]uint32 {
	for range n {
		for _, by := range [][2]int{{15, 11}, {9, 6}} {
			x[0] += x[1]
			x[3] = bits.RotateLeft32(x[3]^x[0], by[0])
			x[2] += x[3]
			x[1] = bits.RotateLeft32(x[1]^x[2], by[1])
		}
	}
	return x
}

func slowNumber(b []byte) (n uint32) {
	for i, one := range b {
		n += uint32(one) << (8 * i)
	}
	return n
}

// slowBytes tells the lowest bytes of n, as many as long says.
func slowBytes(n uint32, long int) (b []byte) {
	for range long {
		b = append(b, byte(n%256))
		n /= 256
	}
	return b
}

func slowFour(b []byte) [4]uint32 {
	x, all := [4]uint32{1, 2, 3, 4}, append(bytes.Clone(b), 1)
	for len(all)%8 != 0 {
		all = append(all, 0)
	}
	for ; len(all) > 0; all = all[8:] {
		x[0] ^= slowNumber(all[:4])
		x[2] ^= slowNumber(all[4:8])
		x = slowTurn(x, 4)
	}
	x[1] ^= uint32(len(b))
	return slowTurn(x, 8)
}

func slowSum(b []byte) uint32 {
	return slowFour(b)[0]
}

func slowKey(parts ...[]byte) (k []byte) {
	for _, word := range slowFour(slices.Concat(parts...)) {
		k = append(k, slowBytes(word, 4)...)
	}
	return k
}

// slowCipher turns bytes by a key and a number; turned once more, they are what they were.
func slowCipher(k []byte, iv uint32, b []byte) []byte {
	b = bytes.Clone(b)
	for i := 0; i < len(b); i += 16 {
		for j, by := range slowKey(k, slowBytes(iv, 4), slowBytes(uint32(i/16), 4)) {
			b[i+j] ^= by
		}
	}
	return b
}

func slowTag(k []byte, iv uint32, made []byte) uint32 {
	return slowSum(slices.Concat(k, []byte{2}, slowKey(k, []byte{1}, slowBytes(iv, 4), made)))
}

// filled has noughts behind it, up to a block.
func filled(b []byte) []byte {
	return append(bytes.Clone(b), make([]byte, 256-len(b))...)
}

func slowPtr(p api.Ptr) []byte {
	return slices.Concat([]byte{byte(p.At)}, slowBytes(p.Birth, 3), slowBytes(p.Iv, 4), slowBytes(p.Tag, 4), slowBytes(p.Sum, 4))
}

// slowEntry tells the 18 bytes of a change.
func slowEntry(c api.Change) []byte {
	if c.Index == head {
		return append([]byte{byte(c.Obj), head, c.Kind, byte(c.Links), byte(c.Size % 256), byte(c.Size / 256)}, make([]byte, 12)...)
	}
	return append([]byte{byte(c.Obj), byte(c.Index)}, slowPtr(c.Laid)...)
}

// summed has its sum behind it, and noughts up to a block.
func summed(b []byte) []byte {
	return filled(append(bytes.Clone(b), slowBytes(slowSum(b), 4)...))
}

// slowHead tells what a block of the log has ahead of its entries.
func slowHead(gen uint32, n, set, many, last int) []byte {
	return slices.Concat([]byte{76}, slowBytes(gen, 4), []byte{byte(n), byte(set), byte(many), byte(last)})
}

// slowBlock tells a block of the log, whole.
func slowBlock(gen uint32, n, last int, changes ...api.Change) []byte {
	b := slowHead(gen, n, changes[0].Set, len(changes), last)
	for _, c := range changes {
		b = append(b, slowEntry(c)...)
	}
	return summed(b)
}

// slowBlocks tells the blocks of a commit, from number n on.
func slowBlocks(gen uint32, n int, changes []api.Change) (blocks [][]byte) {
	for ; len(changes) > inBlock; changes = changes[inBlock:] {
		blocks = append(blocks, slowBlock(gen, n+len(blocks), 0, changes[:inBlock]...))
	}
	return append(blocks, slowBlock(gen, n+len(blocks), 1, changes...))
}

// slowTwinDisk keeps nothing of d, not even its room to spare.
func slowTwinDisk(d api.Disk) (out api.Disk) {
	for _, b := range d.Blocks {
		out.Blocks = append(out.Blocks, []byte(string(b)))
	}
	for _, w := range d.Waits {
		out.Waits = append(out.Waits, api.Write{At: w.At, Data: []byte(string(w.Data))})
	}
	return out
}

func slowTwin(p api.Pool) api.Pool {
	p.Store.Disk = slowTwinDisk(p.Store.Disk)
	p.Store.Space = []byte(string(p.Store.Space))
	p.Meta = append([]int(nil), p.Meta...)
	p.Lines = append([]api.Line(nil), p.Lines...)
	for i := range p.Lines {
		p.Lines[i].Dead = append([]api.Ptr(nil), p.Lines[i].Dead...)
	}
	p.Changes = append([]api.Change(nil), p.Changes...)
	for i := range p.Changes {
		p.Changes[i].Data = []byte(string(p.Changes[i].Data))
	}
	keys := func(of [][]byte) (to [][]byte) {
		for _, key := range of {
			to = append(to, []byte(string(key)))
		}
		return to
	}
	p.Keys, p.Loaded = keys(p.Keys), keys(p.Loaded)
	return p
}

func sameDisk(a, b api.Disk) bool {
	return slices.EqualFunc(a.Blocks, b.Blocks, bytes.Equal) &&
		slices.EqualFunc(a.Waits, b.Waits, func(a, b api.Write) bool { return a.At == b.At && bytes.Equal(a.Data, b.Data) })
}

// differ tells in what p is not want; nothing, if they are the same. A list without elements may be nil or not.
func differ(p, want api.Pool) string {
	told := func(p api.Pool) [][2]string {
		return [][2]string{
			{"Epoch, Count", fmt.Sprint(p.Store.Epoch, p.Store.Count)},
			{"Space", fmt.Sprint(p.Store.Space)},
			{"Gen, Root", fmt.Sprint(p.Gen, p.Root)},
			{"Meta", fmt.Sprint(p.Meta)},
			{"Lines", fmt.Sprint(p.Lines)},
			{"Keys, Loaded", fmt.Sprint(len(p.Keys), p.Keys, len(p.Loaded), p.Loaded)},
			{"Changes", fmt.Sprint(p.Changes)},
			{"Logged", fmt.Sprint(p.Logged)},
			{"NextId, NextGuid", fmt.Sprint(p.NextId, p.NextGuid)},
		}
	}
	b := told(want)
	for i, a := range told(p) {
		if a != b[i] {
			return fmt.Sprintf("%s: %s; want %s", a[0], a[1], b[i][1])
		}
	}
	if !sameDisk(p.Store.Disk, want.Store.Disk) {
		return fmt.Sprintf("another disk, on which %d writes wait; want %d", len(p.Store.Disk.Waits), len(want.Store.Disk.Waits))
	}
	return ""
}

func isZero(p api.Pool) bool {
	return len(p.Store.Disk.Blocks)+len(p.Store.Disk.Waits)+len(p.Store.Space) == 0 && differ(p, api.Pool{}) == ""
}

func within(n, least, most int) bool {
	return least <= n && n <= most
}

// seen is a block as it is seen.
func seen(d api.Disk, at int) []byte {
	for _, w := range slices.Backward(d.Waits) {
		if w.At == at {
			return w.Data
		}
	}
	return d.Blocks[at]
}

// flushed is d where all that waits lasts.
func flushed(d api.Disk) (out api.Disk) {
	for at := range d.Blocks {
		out.Blocks = append(out.Blocks, bytes.Clone(seen(d, at)))
	}
	return out
}

// lineOf tells a line; one of Kind 0, if there is none.
func lineOf(p api.Pool, id int) api.Line {
	for _, l := range p.Lines {
		if l.Id == id {
			return l
		}
	}
	return api.Line{}
}

// ofSet are the changes of one dataset.
func ofSet(all []api.Change, set int) []api.Change {
	return slices.DeleteFunc(slices.Clone(all), func(c api.Change) bool { return c.Set != set })
}

// plainSeal seals the data of a change, and tells where it is laid.
func plainSeal(p *api.Pool, key, b []byte) (api.Ptr, api.Errno) {
	s := &p.Store
	if s.Count == mostCount {
		return none, api.ErrIv
	}
	at := slices.Index(s.Space, unused)
	if at < 0 || len(s.Disk.Waits) == mostWaits {
		return none, api.ErrFull
	}
	s.Count++
	iv := s.Epoch*65536 + s.Count
	made := slowCipher(key, iv, b)
	s.Space[at] = used
	s.Disk.Waits = append(s.Disk.Waits, api.Write{At: at, Data: made})
	return api.Ptr{At: at, Birth: p.Gen + 1, Iv: iv, Tag: slowTag(key, iv, made), Sum: slowSum(made)}, api.OK
}

// plainCommit tells the pool behind a commit, and the disk ahead of each flush, of a pool that may be.
func plainCommit(p api.Pool, set int) (out api.Pool, halves [2]api.Disk, e api.Errno) {
	line := lineOf(p, set)
	if line.Kind == 0 {
		return out, halves, api.ErrNone
	}
	if line.Kind == isSnap {
		return out, halves, api.ErrFrozen
	}
	p = slowTwin(p)
	own := ofSet(p.Changes, set)
	if len(own) == 0 {
		return p, [2]api.Disk{p.Store.Disk, p.Store.Disk}, api.OK
	}
	if len(own) > (logBlocks-p.Logged)*inBlock {
		return out, halves, api.ErrLog
	}
	if p.Gen == mostTxg {
		return out, halves, api.ErrArg
	}
	key := p.Loaded[line.Key]
	toSeal := func(c api.Change) bool { return c.Set == set && len(c.Data) > 0 && c.Laid == none }
	if len(key) == 0 && slices.ContainsFunc(own, toSeal) {
		return out, halves, api.ErrKey
	}
	for i, c := range p.Changes {
		if toSeal(c) {
			if p.Changes[i].Laid, e = plainSeal(&p, key, c.Data); e != api.OK {
				return out, halves, e
			}
		}
	}
	halves[0] = slowTwinDisk(p.Store.Disk)
	p.Store.Disk = flushed(p.Store.Disk)
	for _, b := range slowBlocks(p.Gen, p.Logged, ofSet(p.Changes, set)) {
		p.Store.Disk.Waits = append(p.Store.Disk.Waits, api.Write{At: logFirst + p.Logged, Data: b})
		p.Logged++
	}
	halves[1] = slowTwinDisk(p.Store.Disk)
	p.Store.Disk = flushed(p.Store.Disk)
	return p, halves, api.OK
}

// plainEntry tells the change of an entry, if it is one of a change that may be.
func plainEntry(set int, b []byte) (c api.Change, ok bool) {
	c = api.Change{Set: set, Obj: int(b[0]), Index: int(b[1])}
	if c.Obj > 15 || c.Index > 15 {
		return c, false
	}
	if c.Index == head {
		c.Kind, c.Links, c.Size = b[2], int(b[3]), int(b[4])+256*int(b[5])
		return c, c.Kind <= 7 && c.Size <= 3840 && (c.Kind > 0 || c.Links+c.Size == 0) && bytes.Equal(b[6:], make([]byte, 12))
	}
	p := api.Ptr{At: int(b[2]), Birth: slowNumber(b[3:6]), Iv: slowNumber(b[6:10]), Tag: slowNumber(b[10:14]), Sum: slowNumber(b[14:18])}
	c.Laid = p
	return c, p == none || p.At >= firstBlock && p.Birth > 0
}

// plainPage tells the changes of the block of the log of that number, if one stands there, and whether it is the last one of its commit.
func plainPage(p api.Pool, n int) (changes []api.Change, last, ok bool) {
	b := seen(p.Store.Disk, logFirst+n)
	many := int(b[7])
	if b[0] != 76 || slowNumber(b[1:5]) != p.Gen || int(b[5]) != n || !within(many, 1, inBlock) || b[8] > 1 {
		return nil, false, false
	}
	end := 9 + 18*many
	if slowNumber(b[end:end+4]) != slowSum(b[:end]) || !bytes.Equal(b[end+4:], make([]byte, 256-end-4)) {
		return nil, false, false
	}
	for at := 9; at < end; at += 18 {
		c, ok := plainEntry(int(b[6]), b[at:at+18])
		if !ok {
			return nil, false, false
		}
		changes = append(changes, c)
	}
	return changes, b[8] == 1, true
}

func place(c api.Change) int {
	return c.Obj*16 + c.Index
}

// plainWhole tells the commit that begins at a block, and how many blocks it has: none, if it is not whole, or none at all.
func plainWhole(p api.Pool, n int) (all []api.Change, blocks int) {
	for i := n; i < logBlocks; i++ {
		some, last, ok := plainPage(p, i)
		if !ok || !last && len(some) < inBlock {
			return nil, 0
		}
		all = append(all, some...)
		if !last {
			continue
		}
		for j, c := range all {
			if lineOf(p, c.Set).Kind != isHead || c.Set != all[0].Set || j > 0 && place(all[j-1]) >= place(c) {
				return nil, 0
			}
		}
		return all, i + 1 - n
	}
	return nil, 0
}

// plainReplay tells a pool with what its log has, of one that may be.
func plainReplay(p api.Pool) (api.Pool, api.Errno) {
	if len(p.Changes) > 0 {
		return api.Pool{}, api.ErrBad
	}
	p = slowTwin(p)
	p.Logged = 0
	at := map[int]api.Change{}
	for {
		own, blocks := plainWhole(p, p.Logged)
		if blocks == 0 {
			break
		}
		p.Logged += blocks
		for _, c := range own {
			at[c.Set*256+place(c)] = c
		}
	}
	var laid [256]bool
	for _, n := range slices.Sorted(maps.Keys(at)) {
		p.Changes = append(p.Changes, at[n])
		if l := at[n].Laid; l != none {
			if laid[l.At] || p.Store.Space[l.At] != unused {
				return api.Pool{}, api.ErrBad
			}
			laid[l.At] = true
		}
	}
	for i := range laid {
		if laid[i] {
			p.Store.Space[i] = used
		}
	}
	return p, api.OK
}
