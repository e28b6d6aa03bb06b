package ptr_test

import (
	"bytes"
	"fmt"
	"math"
	"runtime"
	"slices"
	"sync"
	"testing"

	"charterhouse/api"
	"charterhouse/ptr"
)

// none is the pointer to no block.
var none = api.Ptr{}

// numbers are some of 32 bits: the least, the greatest, and such as have each bit alone, or each byte of its own.
func numbers() []uint32 {
	all := []uint32{0, 1, 258, 1<<24 - 1, 1 << 24, 1<<31 - 1, 1<<32 - 2, 1<<32 - 1, 0x04030201, 0xfcfdfeff}
	for bit := range 32 {
		all = append(all, 1<<bit)
	}
	return all
}

// births are numbers of syncs, up to MaxTxg.
func births() []uint32 {
	all := []uint32{1, 2, 255, 256, 257, 258, 65535, 65536, 65537, 0x030201, 0xfdfeff, 1<<24 - 2, 1<<24 - 1}
	for bit := range 24 {
		all = append(all, 1<<bit)
	}
	return all
}

// pointers are those that may be: none, each block, each of some births, each of some numbers.
func pointers() []api.Ptr {
	all := []api.Ptr{none}
	for at := 12; at < 256; at++ {
		all = append(all, api.Ptr{At: at, Birth: 1}, api.Ptr{At: at, Birth: 1<<24 - 1, Iv: 1<<32 - 1, Tag: 1<<32 - 1, Sum: 1<<32 - 1})
	}
	for i, birth := range births() {
		all = append(all, api.Ptr{At: 12 + i, Birth: birth}, api.Ptr{At: 255, Birth: birth, Iv: 7, Tag: 8, Sum: 9})
	}
	for _, n := range numbers() {
		all = append(all, api.Ptr{At: 12, Birth: 1, Iv: n}, api.Ptr{At: 12, Birth: 1, Tag: n}, api.Ptr{At: 12, Birth: 1, Sum: n}, api.Ptr{At: 200, Birth: 300, Iv: n, Tag: n + 1, Sum: n ^ 0x55555555})
	}
	return all
}

// wrongAts are no blocks' that are taken: fixed ones, those beside the greatest one, and such as have the number of one in their lowest bits.
func wrongAts() []int {
	all := []int{-1, -2, -12, -236, -244, -255, -256, 256, 257, 268, 276, 300, 511, 512, 524, 4096, 65536 + 20, 1<<24 + 20, 1<<31 - 1, -1 << 31, 1<<32 + 20, -1<<32 + 20, math.MaxInt, math.MinInt, math.MinInt + 20}
	for at := range 12 {
		all = append(all, at)
	}
	return all
}

func wrongBirths() []uint32 {
	return []uint32{0, 1 << 24, 1<<24 + 1, 1<<24 + 258, 1 << 25, 1<<25 - 1, 1 << 31, 1<<31 + 1, 1<<32 - 2, 1<<32 - 1}
}

// wrongOnes are pointers that may not be.
func wrongOnes() []api.Ptr {
	var all []api.Ptr
	for _, at := range wrongAts() {
		for _, birth := range []uint32{0, 1, 258, 1<<24 - 1, 1 << 24} {
			all = append(all, api.Ptr{At: at, Birth: birth, Iv: 1, Tag: 2, Sum: 3})
			if at != 0 || birth != 0 {
				all = append(all, api.Ptr{At: at, Birth: birth})
			}
		}
	}
	for _, birth := range wrongBirths() {
		for _, at := range []int{12, 20, 254, 255, 256} {
			all = append(all, api.Ptr{At: at, Birth: birth}, api.Ptr{At: at, Birth: birth, Iv: 1, Tag: 2, Sum: 3})
		}
	}
	for _, n := range numbers() {
		if n != 0 {
			all = append(all, api.Ptr{Iv: n}, api.Ptr{Tag: n}, api.Ptr{Sum: n}, api.Ptr{Birth: n}, api.Ptr{At: 12, Iv: n}, api.Ptr{At: 12, Tag: n}, api.Ptr{At: 12, Sum: n})
		}
	}
	return all
}

// slowWrite is made without package ptr, one byte after the other.
func slowWrite(p api.Ptr) []byte {
	b := []byte{byte(p.At), byte(p.Birth), byte(p.Birth / 256), byte(p.Birth / 65536)}
	for _, n := range []uint32{p.Iv, p.Tag, p.Sum} {
		b = append(b, byte(n), byte(n/256), byte(n/65536), byte(n/16777216))
	}
	return b
}

func slowRow(l []api.Ptr) []byte {
	var b []byte
	for _, p := range l {
		b = append(b, slowWrite(p)...)
	}
	for len(b) < 256 {
		b = append(b, 0)
	}
	return b
}

// some are n pointers that may be, from the i-th one on; where n is more than there are, they come again.
func some(i, n int) []api.Ptr {
	all := pointers()
	var l []api.Ptr
	for k := range n {
		l = append(l, all[(i+k)%len(all)])
	}
	return l
}

// filled is l, and none as often as 16 pointers need.
func filled(l []api.Ptr) []api.Ptr {
	return slices.Concat(l, make([]api.Ptr, 16-len(l)))
}

// rows are lists of pointers that may be: of all lengths, with none at all places.
func rows() [][]api.Ptr {
	all := [][]api.Ptr{nil, {}}
	for n := range 17 {
		all = append(all, some(n*29, n), some(n*31+1, n), make([]api.Ptr, n), slices.Repeat([]api.Ptr{{At: 255, Birth: 1<<24 - 1, Iv: 1<<32 - 1, Tag: 1<<32 - 1, Sum: 1<<32 - 1}}, n))
	}
	for n := range 16 {
		one := make([]api.Ptr, 16)
		one[n] = api.Ptr{At: 12 + n, Birth: 1}
		other := some(n*16+1, 16)
		other[n] = none
		all = append(all, one, other)
	}
	for i := 0; i < len(pointers()); i += 16 {
		all = append(all, some(i, 16))
	}
	return all
}

func wantCheck(t *testing.T, p api.Ptr, want api.Errno) {
	t.Helper()
	if e := ptr.Check(p); e != want {
		t.Errorf("Check(%v) = %d; want %d", p, e, want)
	}
}

func wantWrite(t *testing.T, p api.Ptr, want []byte, e api.Errno) {
	t.Helper()
	if b, got := ptr.Write(p); !bytes.Equal(b, want) || got != e {
		t.Errorf("Write(%v) = %d, %d; want %d, %d", p, b, got, want, e)
	}
}

func wantRead(t *testing.T, b []byte, want api.Ptr, e api.Errno) {
	t.Helper()
	if p, got := ptr.Read(b); p != want || got != e {
		t.Errorf("Read(%d) = %v, %d; want %v, %d", b, p, got, want, e)
	}
}

func wantRow(t *testing.T, l []api.Ptr, want []byte, e api.Errno) {
	t.Helper()
	if b, got := ptr.Row(l); !bytes.Equal(b, want) || got != e {
		t.Errorf("Row(%v) = %d, %d; want %d, %d", l, b, got, want, e)
	}
}

func wantRows(t *testing.T, block []byte, want []api.Ptr, e api.Errno) {
	t.Helper()
	if l, got := ptr.Rows(block); !slices.Equal(l, want) || got != e {
		t.Errorf("Rows(%d) = %v, %d; want %v, %d", block, l, got, want, e)
	}
}

func TestP101Check(t *testing.T) {
	for _, p := range pointers() {
		wantCheck(t, p, api.OK)
	}
	for at := -600; at < 1200; at++ {
		want := api.ErrBad
		if at >= 12 && at <= 255 {
			want = api.OK
		}
		wantCheck(t, api.Ptr{At: at, Birth: 1}, want)
		wantCheck(t, api.Ptr{At: at, Birth: 1<<24 - 1, Sum: 1}, want)
	}
	wantCheck(t, none, api.OK)
}

func TestP101CheckWrong(t *testing.T) {
	for _, p := range wrongOnes() {
		wantCheck(t, p, api.ErrBad)
	}
	for bit := range 32 {
		for _, birth := range births() {
			want := api.OK
			if bit >= 24 {
				want = api.ErrBad
			}
			wantCheck(t, api.Ptr{At: 100, Birth: birth | 1<<bit}, want)
		}
	}
}

// The bytes of some, as they were reckoned by hand.
func TestP101Write(t *testing.T) {
	for _, c := range []struct {
		p    api.Ptr
		want []byte
	}{
		{none, []byte{0, 0, 0, 0, 0, 0, 0, 0, 0, 0, 0, 0, 0, 0, 0, 0}},
		{api.Ptr{At: 12, Birth: 1}, []byte{12, 1, 0, 0, 0, 0, 0, 0, 0, 0, 0, 0, 0, 0, 0, 0}},
		{api.Ptr{At: 255, Birth: 1<<24 - 1}, []byte{255, 255, 255, 255, 0, 0, 0, 0, 0, 0, 0, 0, 0, 0, 0, 0}},
		{api.Ptr{At: 99, Birth: 65536}, []byte{99, 0, 0, 1, 0, 0, 0, 0, 0, 0, 0, 0, 0, 0, 0, 0}},
		{api.Ptr{At: 12, Birth: 1, Iv: 1<<32 - 1}, []byte{12, 1, 0, 0, 255, 255, 255, 255, 0, 0, 0, 0, 0, 0, 0, 0}},
		{api.Ptr{At: 12, Birth: 1, Tag: 1<<32 - 2}, []byte{12, 1, 0, 0, 0, 0, 0, 0, 254, 255, 255, 255, 0, 0, 0, 0}},
		{api.Ptr{At: 12, Birth: 1, Sum: 1 << 31}, []byte{12, 1, 0, 0, 0, 0, 0, 0, 0, 0, 0, 0, 0, 0, 0, 128}},
		{api.Ptr{At: 201, Birth: 0x0c0b0a, Iv: 0x100f0e0d, Tag: 0x14131211, Sum: 0x18171615}, []byte{201, 10, 11, 12, 13, 14, 15, 16, 17, 18, 19, 20, 21, 22, 23, 24}},
	} {
		wantWrite(t, c.p, c.want, api.OK)
		wantRead(t, c.want, c.p, api.OK)
	}
}

func TestP101WriteAndReadAll(t *testing.T) {
	for _, p := range pointers() {
		wantWrite(t, p, slowWrite(p), api.OK)
		wantRead(t, slowWrite(p), p, api.OK)
	}
}

func TestP101WriteWrong(t *testing.T) {
	for _, p := range wrongOnes() {
		wantWrite(t, p, nil, api.ErrBad)
	}
}

// Bytes of ones that may not be: each block's number and some births.
func TestP101ReadWrong(t *testing.T) {
	for at := range 256 {
		for _, birth := range append(births(), 0) {
			for _, n := range []uint32{0, 1, 1 << 31} {
				p := api.Ptr{At: at, Birth: birth, Tag: n}
				switch {
				case at >= 12 && birth != 0, p == none:
					wantRead(t, slowWrite(p), p, api.OK)
				default:
					wantRead(t, slowWrite(p), none, api.ErrBad)
				}
			}
		}
	}
	// Each byte of none counts.
	for byt := range 16 {
		for by := 1; by < 256; by++ {
			b := make([]byte, 16)
			b[byt] = byte(by)
			wantRead(t, b, none, api.ErrBad)
		}
	}
}

// How many bytes there are is asked first, whatever they are.
func TestP101ReadLengths(t *testing.T) {
	good, bad := slices.Repeat(slowWrite(api.Ptr{At: 12, Birth: 1, Sum: 4}), 17), slices.Repeat([]byte{1}, 272)
	for n := range 272 {
		if n == 16 {
			continue
		}
		wantRead(t, good[:n], none, api.ErrText)
		wantRead(t, bad[:n:n], none, api.ErrText)
		wantRead(t, make([]byte, n), none, api.ErrText)
	}
	wantRead(t, nil, none, api.ErrText)
	wantRead(t, make([]byte, 65536+16), none, api.ErrText)
	wantRead(t, good[:16], api.Ptr{At: 12, Birth: 1, Sum: 4}, api.OK)
	wantRead(t, bad[:16], none, api.ErrBad)
	wantRead(t, make([]byte, 16, 17), none, api.OK)
}

func TestP102Row(t *testing.T) {
	for _, l := range rows() {
		wantRow(t, l, slowRow(l), api.OK)
		wantRows(t, slowRow(l), filled(l), api.OK)
	}
}

func TestP102RowByHand(t *testing.T) {
	block := make([]byte, 256)
	wantRow(t, nil, block, api.OK)
	wantRows(t, block, make([]api.Ptr, 16), api.OK)
	l := make([]api.Ptr, 16)
	l[0] = api.Ptr{At: 12, Birth: 2}
	block[0], block[1] = 12, 2
	l[1] = api.Ptr{At: 13, Birth: 256, Iv: 3}
	block[16], block[18], block[20] = 13, 1, 3
	l[9] = api.Ptr{At: 14, Birth: 65536, Tag: 4}
	block[144], block[147], block[152] = 14, 1, 4
	l[15] = api.Ptr{At: 255, Birth: 5, Sum: 6 << 24}
	block[240], block[241], block[255] = 255, 5, 6
	wantRow(t, l, block, api.OK)
	wantRows(t, block, l, api.OK)
	wantRow(t, l[:10], append(slices.Clone(block[:160]), make([]byte, 96)...), api.OK)
}

// A list is too long with 17 pointers, and no sooner; that is asked ahead of whether each may be.
func TestP102RowMany(t *testing.T) {
	for _, n := range []int{17, 18, 31, 32, 33, 255, 256, 272, 65536, 65552} {
		wantRow(t, make([]api.Ptr, n), nil, api.ErrMany)
		wantRow(t, some(1, n), nil, api.ErrMany)
		wantRow(t, slices.Repeat([]api.Ptr{{At: 11, Birth: 1}}, n), nil, api.ErrMany)
	}
	l := some(5, 17)
	wantRow(t, l[:16], slowRow(l[:16]), api.OK)
}

func TestP102RowWrong(t *testing.T) {
	for i, p := range wrongOnes() {
		n := i%16 + 1
		for _, at := range []int{0, i % n, n - 1} {
			l := some(i, n)
			l[at] = p
			wantRow(t, l, nil, api.ErrBad)
		}
		wantRow(t, slices.Repeat([]api.Ptr{p}, 16), nil, api.ErrBad)
	}
	for n := range 16 {
		l := some(1, 16)
		l[n].Birth = 0
		wantRow(t, l, nil, api.ErrBad)
		wantRow(t, l[:n], slowRow(l[:n]), api.OK)
		l = make([]api.Ptr, 16)
		l[n].Sum = 1
		wantRow(t, l, nil, api.ErrBad)
	}
}

// A block is a row only if each of its 16 pointers may be.
func TestP102RowsWrong(t *testing.T) {
	for n := range 16 {
		for _, whole := range [][]byte{slowRow(some(1, 16)), make([]byte, 256)} {
			for _, wrong := range []api.Ptr{{At: 11, Birth: 1}, {At: 1}, {At: 255}, {Birth: 1}, {Birth: 1<<24 - 1}, {Iv: 1 << 31}, {Tag: 1}, {Sum: 1}, {Sum: 1 << 31}, {At: 11, Birth: 1, Iv: 1, Tag: 1, Sum: 1}} {
				block := slices.Clone(whole)
				copy(block[n*16:], slowWrite(wrong))
				wantRows(t, block, nil, api.ErrBad)
			}
		}
	}
	// Each byte of noughts counts.
	for byt := range 256 {
		block := make([]byte, 256)
		block[byt] = byte(byt%255) + 1
		wantRows(t, block, nil, api.ErrBad)
	}
	wantRows(t, slices.Repeat([]byte{255}, 256), slices.Repeat([]api.Ptr{{At: 255, Birth: 1<<24 - 1, Iv: 1<<32 - 1, Tag: 1<<32 - 1, Sum: 1<<32 - 1}}, 16), api.OK)
	wantRows(t, slices.Repeat([]byte{11}, 256), nil, api.ErrBad)
}

func TestP102RowsLengths(t *testing.T) {
	good, bad := slices.Repeat(slowRow(some(1, 16)), 3), slices.Repeat([]byte{1}, 768)
	for _, n := range []int{0, 1, 15, 16, 17, 32, 128, 239, 240, 241, 254, 255, 257, 271, 272, 273, 511, 512, 768} {
		wantRows(t, good[:n], nil, api.ErrText)
		wantRows(t, bad[:n:n], nil, api.ErrText)
		wantRows(t, make([]byte, n), nil, api.ErrText)
	}
	wantRows(t, nil, nil, api.ErrText)
	wantRows(t, make([]byte, 65536+256), nil, api.ErrText)
	wantRows(t, good[:256], some(1, 16), api.OK)
	wantRows(t, bad[:256], nil, api.ErrBad)
}

// Also what lies in the room to spare behind a list stays what it is, and counts for nothing.
func TestP103OnlyReads(t *testing.T) {
	for n := range 17 {
		l := append(some(n, n), some(100, 20)...)
		want := slices.Clone(l)
		wantRow(t, l[:n], slowRow(l[:n]), api.OK)
		if !slices.Equal(l, want) {
			t.Errorf("Row: a list of %d is turned", n)
		}
		l[n].At = -1
		want = slices.Clone(l)
		wantRow(t, l[:n], slowRow(l[:n]), api.OK)
		ptr.Row(l[:n+1])
		if !slices.Equal(l, want) {
			t.Errorf("Row: a list of %d and a wrong one is turned", n)
		}
	}
	for _, b := range [][]byte{slices.Repeat(slowRow(some(1, 16)), 2), slices.Repeat([]byte{1}, 512), make([]byte, 512)} {
		want := slices.Clone(b)
		for _, n := range []int{0, 15, 16, 17, 255, 256, 257} {
			ptr.Read(b[:n])
			ptr.Rows(b[:n])
			if !bytes.Equal(b, want) {
				t.Errorf("Read or Rows: %d bytes are turned", n)
			}
		}
	}
}

// What is answered stays what it is when what was handed in, or another answer, is turned, and the other way round.
func TestP103IsNewMemory(t *testing.T) {
	p := api.Ptr{At: 77, Birth: 3, Sum: 5}
	a, _ := ptr.Write(p)
	b, _ := ptr.Write(p)
	clear(a[:cap(a)])
	if !bytes.Equal(b, slowWrite(p)) {
		t.Error("Write: two answers share memory")
	}
	wantWrite(t, p, slowWrite(p), api.OK)
	for _, l := range rows() {
		handed := slices.Concat(l, some(3, 4))[:len(l)]
		a, _ := ptr.Row(handed)
		b, _ := ptr.Row(handed)
		clear(a[:cap(a)])
		if !slices.Equal(handed, l) || !bytes.Equal(b, slowRow(l)) {
			t.Errorf("Row(%v): an answer shares memory", l)
		}
		clear(handed)
		if !bytes.Equal(b, slowRow(l)) {
			t.Errorf("Row(%v): an answer shares memory with a list", l)
		}
		block := slowRow(l)
		c, _ := ptr.Rows(block)
		d, _ := ptr.Rows(block)
		clear(c[:cap(c)])
		if !bytes.Equal(block, slowRow(l)) || !slices.Equal(d, filled(l)) {
			t.Errorf("Rows: an answer shares memory, of %v", l)
		}
		for i := range block {
			block[i] = 255
		}
		if !slices.Equal(d, filled(l)) {
			t.Errorf("Rows: an answer shares memory with a block, of %v", l)
		}
	}
}

// What is written is read as it was.
func TestP104WrittenIsRead(t *testing.T) {
	for _, p := range pointers() {
		b, e := ptr.Write(p)
		if e != api.OK || len(b) != 16 {
			t.Errorf("Write(%v) = %d, %d", p, b, e)
		}
		wantRead(t, b, p, api.OK)
	}
	for _, l := range rows() {
		block, e := ptr.Row(l)
		if e != api.OK || len(block) != 256 {
			t.Errorf("Row(%v) = %d, %d", l, block, e)
		}
		wantRows(t, block, filled(l), api.OK)
	}
}

// What is read is written as just these bytes, and what is refused would not have been written.
func TestP104ReadIsWritten(t *testing.T) {
	b, state := make([]byte, 16), uint32(1)
	read := 0
	for i := range 20000 {
		for k := range b {
			state = state*1664525 + 1013904223
			b[k] = byte(state >> 24)
		}
		b[0] = byte(i)
		if i%3 == 0 {
			clear(b[1+i%4 : 4+i%13])
		}
		p, e := ptr.Read(b)
		may := slices.Max(b) == 0 || b[0] >= 12 && (b[1] != 0 || b[2] != 0 || b[3] != 0)
		if may != (e == api.OK) || !may && e != api.ErrBad {
			t.Fatalf("Read(%d) = %v, %d", b, p, e)
		}
		if may {
			read++
			wantWrite(t, p, b, api.OK)
			wantCheck(t, p, api.OK)
		}
	}
	if read < 15000 || read > 19500 {
		t.Errorf("%d of 20000 were read", read)
	}
	for _, l := range rows() {
		block := slowRow(l)
		m, e := ptr.Rows(block)
		if e != api.OK {
			t.Errorf("Rows: %d, of %v", e, l)
		}
		wantRow(t, m, block, api.OK)
	}
}

// Each one's bytes are its own alone.
func TestP104UnlikeOnes(t *testing.T) {
	seen := map[string]api.Ptr{}
	for _, p := range pointers() {
		b, _ := ptr.Write(p)
		if q, ok := seen[string(b)]; ok && p != q {
			t.Errorf("%v and %v have the same bytes", p, q)
		}
		seen[string(b)] = p
	}
}

func TestExamples(t *testing.T) {
	wantWrite(t, none, make([]byte, 16), api.OK)
	b, e := ptr.Write(api.Ptr{At: 20, Birth: 258, Sum: 1})
	if e != api.OK || len(b) != 16 || !bytes.Equal(b[:5], []byte{20, 2, 1, 0, 0}) || !bytes.Equal(b[12:], []byte{1, 0, 0, 0}) {
		t.Errorf("Write = %d, %d", b, e)
	}
	wantCheck(t, api.Ptr{At: 11, Birth: 1}, api.ErrBad)
	wantCheck(t, api.Ptr{At: 0, Birth: 1}, api.ErrBad)
	wantCheck(t, api.Ptr{At: 12, Birth: 0}, api.ErrBad)
	row, e := ptr.Row([]api.Ptr{{At: 20, Birth: 1}})
	if e != api.OK {
		t.Fatal(e)
	}
	l, e := ptr.Rows(row)
	if e != api.OK || len(l) != 16 || l[0] != (api.Ptr{At: 20, Birth: 1}) || l[1] != none {
		t.Errorf("Rows = %v, %d", l, e)
	}
}

// answers are all that the calls answer to a pointer, some bytes, and a list.
func answers(p api.Ptr, b []byte, l []api.Ptr) string {
	written, writeError := ptr.Write(p)
	read, readError := ptr.Read(b)
	row, rowError := ptr.Row(l)
	list, listError := ptr.Rows(b)
	return fmt.Sprint(ptr.Check(p), written, writeError, read, readError, row, rowError, list, listError)
}

func TestR1AllEnd(t *testing.T) {
	all := append(pointers(), wrongOnes()...)
	for i, p := range all {
		answers(p, make([]byte, i), all[:i])
		answers(p, slices.Repeat([]byte{byte(i)}, i%300), all[i:])
	}
	answers(none, nil, nil)
	answers(none, make([]byte, 1<<20), make([]api.Ptr, 1<<20))
}

// The same arguments have the same answers, also side by side, and no goroutine is left behind.
func TestR2ArgumentsAlone(t *testing.T) {
	p, l := api.Ptr{At: 33, Birth: 44, Iv: 55, Tag: 66, Sum: 77}, some(50, 16)
	b := slowRow(l)
	began, short, long := runtime.NumGoroutine(), answers(p, b[:16], l), answers(p, b, l)
	if now := runtime.NumGoroutine(); now > began {
		t.Errorf("%d goroutines; there were %d", now, began)
	}
	var wait sync.WaitGroup
	for range 8 {
		wait.Go(func() {
			for range 200 {
				if answers(p, b[:16], l) != short || answers(p, b, l) != long {
					t.Error("a call has two answers")
				}
			}
		})
	}
	wait.Wait()
}
