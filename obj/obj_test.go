package obj_test

import (
	"bytes"
	"fmt"
	"math"
	"runtime"
	"slices"
	"sync"
	"testing"

	"charterhouse/api"
	"charterhouse/obj"
)

// The edges of numbers, as the document has them.
const (
	mostKind   = 7
	mostLinks  = 255
	mostSize   = 3840
	places     = 15
	mostBirth  = 1<<24 - 1
	mostNumber = 1<<32 - 1
)

var hole, nothing = api.Ptr{}, api.Object{}

// pointers are such as may be: about the edges, of all blocks, and with each bit.
func pointers() []api.Ptr {
	all := []api.Ptr{hole, {At: 12, Birth: 1}, {At: 255, Birth: mostBirth}, {At: 255, Birth: mostBirth, Iv: mostNumber, Tag: mostNumber, Sum: mostNumber}, {At: 201, Birth: 0x0c0b0a, Iv: 0x100f0e0d, Tag: 0x14131211, Sum: 0x18171615}}
	for at := 12; at < 256; at++ {
		all = append(all, api.Ptr{At: at, Birth: uint32(at)*65521%mostBirth + 1, Iv: uint32(at) * 16777619, Tag: uint32(at) * 2654435761, Sum: uint32(at) * 40503})
	}
	for bit := range 32 {
		n := uint32(1) << bit
		all = append(all, api.Ptr{At: 12, Birth: n%mostBirth + 1}, api.Ptr{At: 13, Birth: 1, Iv: n}, api.Ptr{At: 14, Birth: 1, Tag: n}, api.Ptr{At: 15, Birth: 1, Sum: n})
	}
	return all
}

// wrongOnes are pointers that may not be.
func wrongOnes() []api.Ptr {
	all := []api.Ptr{{Birth: 1}, {Iv: 1}, {Tag: 1}, {Sum: 1}, {Sum: 1 << 31}, {At: 12}, {At: 255}, {At: 12, Iv: 1}, {At: 12, Tag: 1}, {At: 12, Sum: 1}, {At: 12, Birth: 1 << 24}, {At: 12, Birth: 1<<24 + 1}, {At: 12, Birth: 1 << 31}, {At: 12, Birth: mostNumber}}
	for _, at := range []int{1, 3, 4, 10, 11, 256, 257, 267, 268, 512, 1 << 16, math.MaxInt32, math.MaxInt, -1, -12, -244, math.MinInt32, math.MinInt} {
		all = append(all, api.Ptr{At: at}, api.Ptr{At: at, Birth: 1}, api.Ptr{At: at, Birth: mostBirth, Iv: 1, Tag: 2, Sum: 3})
	}
	return all
}

// some are 15 pointers that may be, from the i-th one on. Behind them there is some room to spare.
func some(i int) []api.Ptr {
	all := pointers()
	var l []api.Ptr
	for k := range places + 3 {
		l = append(l, all[(i+k)%len(all)])
	}
	return l[:places]
}

// holes are 15 of them.
func holes() []api.Ptr {
	return make([]api.Ptr, places)
}

// but is l, with another pointer at at.
func but(l []api.Ptr, at int, p api.Ptr) []api.Ptr {
	l = slices.Clone(l)
	l[at] = p
	return l
}

// object is one that may be, another one for each n up to 255.
func object(n int) api.Object {
	return api.Object{Kind: uint8(n%mostKind + 1), Links: n * 7 % (mostLinks + 1), Size: n * 61 % (mostSize + 1), Data: some(n * 3)}
}

// objects are such as may be: of all kinds, numbers of names and sizes about the edges, and pointers at all places.
func objects() []api.Object {
	all := []api.Object{{Kind: 1, Data: holes()}, {Kind: mostKind, Links: mostLinks, Size: mostSize, Data: slices.Repeat([]api.Ptr{{At: 255, Birth: mostBirth, Iv: mostNumber, Tag: mostNumber, Sum: mostNumber}}, places)}}
	for n := range 256 {
		all = append(all, object(n))
	}
	for kind := 1; kind <= mostKind; kind++ {
		all = append(all, api.Object{Kind: uint8(kind), Data: holes()})
	}
	for links := range mostLinks + 1 {
		all = append(all, api.Object{Kind: 2, Links: links, Size: 5, Data: holes()})
	}
	for size := range mostSize + 1 {
		all = append(all, api.Object{Kind: 3, Links: 4, Size: size, Data: holes()})
	}
	for at := range places {
		all = append(all, api.Object{Kind: 4, Data: but(holes(), at, api.Ptr{At: 12 + at, Birth: 1})}, api.Object{Kind: 5, Links: 1, Size: 300, Data: but(some(at*20+1), at, hole)})
	}
	return all
}

// wrongData are lists that are none of an object: too short, too long, or with a pointer that may not be.
func wrongData() [][]api.Ptr {
	all := [][]api.Ptr{nil, {}}
	for _, n := range []int{1, 2, 7, 13, 14, 16, 17, 30, 31, 240, 255, 256, 271, 1 << 16, 1<<16 + 15} {
		all = append(all, make([]api.Ptr, n), slices.Repeat([]api.Ptr{{At: 12, Birth: 1}}, n))
	}
	all = append(all, some(1)[:14], some(2)[:16], some(3)[:18], some(4)[:0])
	for at := range places {
		for _, p := range wrongOnes() {
			all = append(all, but(holes(), at, p), but(some(at), at, p))
		}
	}
	return all
}

// wrongObjects may not be, each by one thing of it, but for the last ones.
func wrongObjects() []api.Object {
	all := []api.Object{nothing, {Kind: 1}, {Data: holes()}}
	for kind := range 256 {
		if kind < 1 || kind > mostKind {
			all = append(all, api.Object{Kind: uint8(kind), Links: 1, Size: 2, Data: some(kind)}, api.Object{Kind: uint8(kind), Data: holes()})
		}
	}
	for _, n := range []int{-1, -2, -255, -256, -3840, math.MinInt32, math.MinInt, math.MinInt + 1, math.MaxInt32, math.MaxInt, 1 << 16, 1<<16 + 1, 1 << 24, 1 << 32, 1<<32 + 1, 1 << 62} {
		all = append(all, api.Object{Kind: 1, Links: n, Data: holes()}, api.Object{Kind: 1, Size: n, Data: holes()})
	}
	for _, links := range []int{256, 257, 258, 511, 512, 3840} {
		all = append(all, api.Object{Kind: 7, Links: links, Size: 4, Data: some(links)})
	}
	for _, size := range []int{3841, 3842, 4095, 4096, 65535, 65536, 65537} {
		all = append(all, api.Object{Kind: 7, Links: 4, Size: size, Data: some(size)})
	}
	for _, l := range wrongData() {
		all = append(all, api.Object{Kind: 6, Links: 3, Size: 600, Data: l})
	}
	return append(all, api.Object{Kind: 8, Links: 256, Size: 3841, Data: some(1)[:16]}, api.Object{Links: -1, Size: -1}, api.Object{Kind: 255, Links: math.MaxInt, Size: math.MinInt, Data: wrongOnes()})
}

// slowPtr is made without package ptr, one byte after the other.
func slowPtr(p api.Ptr) []byte {
	b := []byte{byte(p.At), byte(p.Birth), byte(p.Birth / 256), byte(p.Birth / 65536)}
	for _, n := range []uint32{p.Iv, p.Tag, p.Sum} {
		b = append(b, byte(n), byte(n/256), byte(n/65536), byte(n/16777216))
	}
	return b
}

func slowWrite(o api.Object) []byte {
	b := []byte{o.Kind, byte(o.Links), byte(o.Size % 256), byte(o.Size / 256), 0, 0, 0, 0, 0, 0, 0, 0, 0, 0, 0, 0}
	for _, p := range o.Data {
		b = append(b, slowPtr(p)...)
	}
	return b
}

// slowMay tells whether block is that of an object that may be, as the document says it, one byte after the other.
func slowMay(block []byte) bool {
	size := int(block[2]) + int(block[3])*256
	may := block[0] >= 1 && block[0] <= mostKind && size <= mostSize && slices.Max(block[4:16]) == 0
	for p := range slices.Chunk(block[16:], 16) {
		taken := p[0] >= 12 && (p[1] != 0 || p[2] != 0 || p[3] != 0)
		may = may && (taken || slices.Max(p) == 0)
	}
	return may
}

// turned is block, with another byte at at.
func turned(block []byte, at int, by byte) []byte {
	block = bytes.Clone(block)
	block[at] = by
	return block
}

// slowSame is made without package obj.
func slowSame(a, b api.Object) bool {
	if len(a.Data) != len(b.Data) {
		return false
	}
	for i, p := range a.Data {
		if p != b.Data[i] {
			return false
		}
	}
	return a.Kind == b.Kind && a.Links == b.Links && a.Size == b.Size
}

// twin is o, in new memory.
func twin(o api.Object) api.Object {
	o.Data = slices.Clone(o.Data)
	return o
}

func wantCheck(t *testing.T, o api.Object, want api.Errno) {
	t.Helper()
	if e := obj.Check(o); e != want {
		t.Errorf("Check(%v) = %d; want %d", o, e, want)
	}
}

func wantWrite(t *testing.T, o api.Object, want []byte, e api.Errno) {
	t.Helper()
	if b, got := obj.Write(o); !bytes.Equal(b, want) || got != e {
		t.Errorf("Write(%v) = %d, %d; want %d, %d", o, b, got, want, e)
	}
}

func wantRead(t *testing.T, block []byte, want api.Object, e api.Errno) {
	t.Helper()
	if o, got := obj.Read(block); !slowSame(o, want) || got != e {
		t.Errorf("Read(%d) = %v, %d; want %v, %d", block, o, got, want, e)
	}
}

// wantSame asks both ways round.
func wantSame(t *testing.T, a, b api.Object, want bool) {
	t.Helper()
	if obj.Same(a, b) != want || obj.Same(b, a) != want {
		t.Errorf("Same(%v, %v) is not %t, both ways round", a, b, want)
	}
}

func TestP141Check(t *testing.T) {
	for _, o := range objects() {
		wantCheck(t, o, api.OK)
	}
	for _, p := range pointers() {
		wantCheck(t, api.Object{Kind: 1, Data: slices.Repeat([]api.Ptr{p}, places)}, api.OK)
	}
}

func TestP141CheckWrong(t *testing.T) {
	for _, o := range wrongObjects() {
		wantCheck(t, o, api.ErrBad)
	}
}

// Each number and each length, from well below what may be to well above.
func TestP141CheckEdges(t *testing.T) {
	want := func(may bool) api.Errno {
		if may {
			return api.OK
		}
		return api.ErrBad
	}
	for n := -5000; n < 9000; n++ {
		wantCheck(t, api.Object{Kind: 1, Links: n, Size: 1, Data: holes()}, want(n >= 0 && n <= 255))
		wantCheck(t, api.Object{Kind: 7, Links: 255, Size: n, Data: holes()}, want(n >= 0 && n <= 3840))
	}
	for n := range 300 {
		wantCheck(t, api.Object{Kind: uint8(n), Data: holes()}, want(n%256 >= 1 && n%256 <= 7))
		wantCheck(t, api.Object{Kind: 1, Data: make([]api.Ptr, n)}, want(n == 15))
		wantCheck(t, api.Object{Kind: 1, Data: make([]api.Ptr, 15, 15+n)}, api.OK)
	}
	for at := range places {
		for n := -300; n < 600; n++ {
			wantCheck(t, api.Object{Kind: 1, Data: but(some(n+300), at, api.Ptr{At: n, Birth: 1})}, want(n >= 12 && n <= 255))
		}
	}
}

// How many bytes there are hangs on nothing: neither on how many blocks, nor which of them are holes.
func TestP141CheckSizeAlone(t *testing.T) {
	for _, size := range []int{0, 1, 255, 256, 257, 3839, 3840} {
		for _, l := range [][]api.Ptr{holes(), some(0), but(holes(), 14, api.Ptr{At: 12, Birth: 1}), slices.Repeat([]api.Ptr{{At: 12, Birth: 1}}, places)} {
			wantCheck(t, api.Object{Kind: 1, Size: size, Data: l}, api.OK)
		}
	}
}

func TestP141Same(t *testing.T) {
	for _, o := range slices.Concat(objects()[:300], wrongObjects()) {
		wantSame(t, o, o, true)
		wantSame(t, o, twin(o), true)
		for _, other := range []api.Object{
			{Kind: o.Kind + 1, Links: o.Links, Size: o.Size, Data: o.Data},
			{Kind: o.Kind, Links: o.Links + 1, Size: o.Size, Data: o.Data},
			{Kind: o.Kind, Links: o.Links + 256, Size: o.Size, Data: o.Data},
			{Kind: o.Kind, Links: o.Links, Size: o.Size + 1, Data: o.Data},
			{Kind: o.Kind, Links: o.Links, Size: o.Size + 65536, Data: o.Data},
			{Kind: o.Kind, Links: o.Links, Size: o.Size, Data: append(slices.Clone(o.Data), hole)},
		} {
			wantSame(t, o, other, false)
		}
	}
}

// Each field of each pointer counts, and their order.
func TestP141SamePointers(t *testing.T) {
	o := object(100)
	for at := range places {
		for _, turn := range []func(p *api.Ptr){
			func(p *api.Ptr) { p.At++ },
			func(p *api.Ptr) { p.At += 256 },
			func(p *api.Ptr) { p.Birth ^= 1 << 23 },
			func(p *api.Ptr) { p.Birth ^= 1 << 31 },
			func(p *api.Ptr) { p.Iv ^= 1 },
			func(p *api.Ptr) { p.Tag ^= 1 << 31 },
			func(p *api.Ptr) { p.Sum ^= 1 << 16 },
		} {
			other := twin(o)
			turn(&other.Data[at])
			wantSame(t, o, other, false)
		}
		if at > 0 {
			other := twin(o)
			other.Data[at-1], other.Data[at] = other.Data[at], other.Data[at-1]
			wantSame(t, o, other, false)
		}
		wantSame(t, o, api.Object{Kind: o.Kind, Links: o.Links, Size: o.Size, Data: o.Data[:at]}, false)
	}
}

// A list without elements may be nil or not; what lies in the room to spare counts for nothing.
func TestP141SameLists(t *testing.T) {
	wantSame(t, nothing, api.Object{Data: []api.Ptr{}}, true)
	wantSame(t, api.Object{Data: some(1)[:0]}, api.Object{Data: some(2)[:0]}, true)
	wantSame(t, nothing, api.Object{Data: holes()}, false)
	wantSame(t, api.Object{Data: holes()}, api.Object{Data: make([]api.Ptr, 14)}, false)
	a, b := some(1), slices.Concat(some(1), some(50))[:places]
	wantSame(t, api.Object{Kind: 1, Data: a}, api.Object{Kind: 1, Data: b}, true)
}

func TestP141SameAll(t *testing.T) {
	var all []api.Object
	for n := range 40 {
		all = append(all, object(n), api.Object{Kind: uint8(n % 3), Links: n % 2, Size: n % 5, Data: make([]api.Ptr, n%4)})
	}
	for _, a := range all {
		for _, b := range all {
			wantSame(t, a, b, slowSame(a, b))
		}
	}
}

// The block of one, as it was laid by hand.
func TestP142ByHand(t *testing.T) {
	block := make([]byte, 256)
	block[0] = 1
	o := api.Object{Kind: 1, Data: holes()}
	wantWrite(t, o, block, api.OK)
	wantRead(t, block, o, api.OK)
	o.Kind, block[0] = 7, 7
	o.Links, block[1] = 254, 254
	o.Size, block[2], block[3] = 3839, 255, 14
	o.Data[0] = api.Ptr{At: 12, Birth: 2}
	block[16], block[17] = 12, 2
	o.Data[1] = api.Ptr{At: 13, Birth: 256, Iv: 3}
	block[32], block[34], block[36] = 13, 1, 3
	o.Data[9] = api.Ptr{At: 14, Birth: 65536, Tag: 4}
	block[160], block[163], block[168] = 14, 1, 4
	o.Data[14] = api.Ptr{At: 255, Birth: 5, Sum: 6 << 24}
	block[240], block[241], block[255] = 255, 5, 6
	wantWrite(t, o, block, api.OK)
	wantRead(t, block, o, api.OK)
	o.Size, block[2], block[3] = 256, 0, 1
	wantWrite(t, o, block, api.OK)
	wantRead(t, block, o, api.OK)
}

func TestP142WriteAndReadAll(t *testing.T) {
	for _, o := range objects() {
		wantWrite(t, o, slowWrite(o), api.OK)
		wantRead(t, slowWrite(o), o, api.OK)
	}
	for i, p := range pointers() {
		o := object(i % 256)
		o.Data[i%places] = p
		wantWrite(t, o, slowWrite(o), api.OK)
		wantRead(t, slowWrite(o), o, api.OK)
	}
}

func TestP142WriteWrong(t *testing.T) {
	for _, o := range wrongObjects() {
		wantWrite(t, o, nil, api.ErrBad)
	}
}

// Each head's first four bytes are those of an object that may be, or not.
func TestP142ReadHeads(t *testing.T) {
	data := slowWrite(object(9))[16:]
	for _, links := range []byte{0, 255} {
		for kind := range 12 {
			for size := range 4400 {
				block := slices.Concat([]byte{byte(kind), links, byte(size), byte(size >> 8)}, make([]byte, 12), data)
				if kind < 1 || kind > mostKind || size > mostSize {
					wantRead(t, block, nothing, api.ErrBad)
				} else {
					wantRead(t, block, api.Object{Kind: uint8(kind), Links: int(links), Size: size, Data: object(9).Data}, api.OK)
				}
			}
		}
	}
	for kind := 8; kind < 256; kind++ {
		wantRead(t, turned(slowWrite(object(9)), 0, byte(kind)), nothing, api.ErrBad)
	}
	for high := 16; high < 256; high++ {
		wantRead(t, turned(slowWrite(object(9)), 3, byte(high)), nothing, api.ErrBad)
	}
}

// Each of the head's twelve noughts has to be one.
func TestP142ReadNoughts(t *testing.T) {
	for _, n := range []int{1, 100, 255} {
		block := slowWrite(object(n))
		for at := 4; at < 16; at++ {
			for by := 1; by < 256; by++ {
				wantRead(t, turned(block, at, byte(by)), nothing, api.ErrBad)
			}
		}
		// A whole pointer may not stand in their place either.
		for _, p := range []api.Ptr{{At: 7, Birth: 1, Iv: 2}, {At: 12, Birth: 1}, {At: 1, Birth: 2, Iv: 1, Tag: 1, Sum: 1}} {
			wantRead(t, slices.Concat(slowPtr(p), block[16:]), nothing, api.ErrBad)
		}
	}
}

// A block of which one pointer may not be is none, wherever it stands.
func TestP142ReadPointers(t *testing.T) {
	for at := range places {
		for _, whole := range []api.Object{{Kind: 1, Data: holes()}, object(at + 30)} {
			for _, p := range []api.Ptr{{At: 11, Birth: 1}, {At: 1}, {At: 4, Birth: 1}, {At: 12}, {At: 255}, {At: 255, Iv: 1, Tag: 1, Sum: 1}, {Birth: 1}, {Birth: mostBirth}, {Iv: 1 << 31}, {Tag: 1}, {Sum: 1}, {Sum: 1 << 31}} {
				wantRead(t, slowWrite(api.Object{Kind: whole.Kind, Links: 1, Size: 2, Data: but(whole.Data, at, p)}), nothing, api.ErrBad)
			}
		}
	}
	// Each byte of a hole counts.
	for at := 16; at < 256; at++ {
		wantRead(t, turned(slowWrite(api.Object{Kind: 1, Data: holes()}), at, byte(at%255)+1), nothing, api.ErrBad)
	}
}

// How many bytes there are is asked first, whatever they are.
func TestP142ReadLengths(t *testing.T) {
	good, bad := slices.Repeat(slowWrite(object(5)), 3), slices.Repeat([]byte{1}, 768)
	for n := range 768 {
		if n == 256 {
			continue
		}
		wantRead(t, good[:n], nothing, api.ErrText)
		wantRead(t, bad[:n:n], nothing, api.ErrText)
		wantRead(t, make([]byte, n), nothing, api.ErrText)
	}
	wantRead(t, nil, nothing, api.ErrText)
	wantRead(t, make([]byte, 65536+256), nothing, api.ErrText)
	wantRead(t, good[:256], object(5), api.OK)
	wantRead(t, good[:256:256], object(5), api.OK)
	wantRead(t, good[1:257], nothing, api.ErrBad)
	wantRead(t, bad[:256], nothing, api.ErrBad)
	wantRead(t, make([]byte, 256), nothing, api.ErrBad)
}

// Also what lies in the room to spare behind a list stays what it is, and counts for nothing.
func TestP143OnlyReads(t *testing.T) {
	for n := range 40 {
		for _, p := range []api.Ptr{hole, {At: 77, Birth: 3, Iv: 1}, {At: 11}} {
			l := slices.Concat(some(n), some(n+100), []api.Ptr{p})
			l[places] = p
			want := slices.Clone(l)
			for _, long := range []int{0, 14, 15, 16, 30, len(l)} {
				o := api.Object{Kind: uint8(n%mostKind + 1), Links: n, Size: n, Data: l[:long]}
				obj.Check(o)
				obj.Write(o)
				obj.Same(o, o)
				obj.Same(o, api.Object{Kind: 1, Data: l[1:]})
				if !slices.Equal(l, want) {
					t.Errorf("a list of %d is turned", long)
				}
			}
			o := api.Object{Kind: 1, Data: l[:places]}
			wantWrite(t, o, slowWrite(api.Object{Kind: 1, Data: some(n)}), api.OK)
		}
	}
	for _, b := range [][]byte{slices.Repeat(slowWrite(object(8)), 2), slices.Repeat([]byte{1}, 512), make([]byte, 512), slices.Repeat([]byte{7}, 512)} {
		want := bytes.Clone(b)
		for _, n := range []int{0, 16, 255, 256, 257} {
			obj.Read(b[:n])
			if !bytes.Equal(b, want) {
				t.Errorf("Read: %d bytes are turned", n)
			}
		}
	}
}

// What is answered stays what it is when what was handed in, or another answer, is turned, and the other way round.
func TestP143IsNewMemory(t *testing.T) {
	for n := range 256 {
		o, want := object(n), slowWrite(object(n))
		a, _ := obj.Write(o)
		b, _ := obj.Write(o)
		clear(a[:cap(a)])
		if !bytes.Equal(b, want) || !slowSame(o, object(n)) {
			t.Fatalf("Write: an answer shares memory, of %v", o)
		}
		clear(o.Data[:cap(o.Data)])
		if !bytes.Equal(b, want) {
			t.Fatalf("Write: an answer shares memory with a list, of %v", o)
		}
		block := bytes.Clone(want)
		c, _ := obj.Read(block)
		d, _ := obj.Read(block)
		clear(c.Data[:cap(c.Data)])
		if !bytes.Equal(block, want) || !slowSame(d, object(n)) {
			t.Fatalf("Read: an answer shares memory, of %v", d)
		}
		for i := range block {
			block[i] = 255
		}
		if !slowSame(d, object(n)) {
			t.Fatalf("Read: an answer shares memory with a block, of %v", d)
		}
		wantWrite(t, object(n), want, api.OK)
		wantRead(t, want, object(n), api.OK)
	}
}

// What is written is read as it was.
func TestP144WrittenIsRead(t *testing.T) {
	for _, o := range objects() {
		block, e := obj.Write(o)
		if e != api.OK || len(block) != 256 {
			t.Errorf("Write(%v) = %d, %d", o, block, e)
		}
		back, e := obj.Read(block)
		if e != api.OK || !slowSame(o, back) || !obj.Same(o, back) {
			t.Errorf("%v is read as %v, %d", o, back, e)
		}
	}
}

// What is read is written as just this block, and what is refused would not have been written.
func TestP144ReadIsWritten(t *testing.T) {
	state, read := uint32(1), 0
	next := func() byte {
		state = state*1664525 + 1013904223
		return byte(state >> 24)
	}
	for i := range 20000 {
		block := slowWrite(object(i % 256))
		for range i % 4 {
			at := int(next())
			if i%3 == 0 {
				at %= 20
			}
			block[at] = next() % 32
		}
		o, e := obj.Read(block)
		may := slowMay(block)
		if may != (e == api.OK) || !may && e != api.ErrBad {
			t.Fatalf("Read(%d) = %v, %d", block, o, e)
		}
		if may {
			read++
			wantWrite(t, o, block, api.OK)
			wantCheck(t, o, api.OK)
		}
	}
	if read < 10000 || read > 18000 {
		t.Errorf("%d of 20000 were read", read)
	}
}

// Each byte of a block, turned into each other one: what is read is written as just this block.
func TestP144EachByte(t *testing.T) {
	block := slowWrite(object(77))
	for at := range block {
		for by := range 256 {
			b := turned(block, at, byte(by))
			o, e := obj.Read(b)
			if slowMay(b) != (e == api.OK) {
				t.Fatalf("byte %d turned into %d: %d", at, by, e)
			}
			if e == api.OK {
				wantWrite(t, o, b, api.OK)
				wantSame(t, o, object(77), bytes.Equal(b, block))
			}
		}
	}
}

// Each one's block is its own alone.
func TestP144UnlikeOnes(t *testing.T) {
	seen := map[string]api.Object{}
	for _, o := range objects() {
		block, _ := obj.Write(o)
		if other, ok := seen[string(block)]; ok && !slowSame(o, other) {
			t.Errorf("%v and %v have the same block", o, other)
		}
		seen[string(block)] = o
	}
}

func TestExamples(t *testing.T) {
	b, e := obj.Write(api.Object{Kind: 1, Links: 2, Size: 300, Data: holes()})
	if e != api.OK || len(b) != 256 || !bytes.Equal(b[:5], []byte{1, 2, 44, 1, 0}) {
		t.Errorf("Write = %d, %d", b, e)
	}
	wantRead(t, make([]byte, 256), nothing, api.ErrBad)
	wantRead(t, make([]byte, 255), nothing, api.ErrText)
	wantCheck(t, api.Object{Kind: 8, Data: holes()}, api.ErrBad)
	wantCheck(t, api.Object{Kind: 1, Data: make([]api.Ptr, 14)}, api.ErrBad)
}

// answers are all that the calls answer to two objects and some bytes.
func answers(a, b api.Object, block []byte) string {
	written, writeError := obj.Write(a)
	read, readError := obj.Read(block)
	return fmt.Sprint(obj.Check(a), written, writeError, read, readError, obj.Same(a, b))
}

func TestR1AllEnd(t *testing.T) {
	all := slices.Concat(objects()[:600], wrongObjects())
	for i, o := range all {
		answers(o, all[len(all)-1-i], make([]byte, i))
		answers(o, nothing, slices.Repeat([]byte{byte(i)}, i%600))
	}
	answers(nothing, nothing, nil)
	long := api.Object{Kind: 1, Data: make([]api.Ptr, 1<<20)}
	answers(long, long, make([]byte, 1<<20))
}

// The same arguments have the same answers, also side by side, and no goroutine is left behind.
func TestR2ArgumentsAlone(t *testing.T) {
	a, b := object(50), object(60)
	block, wrong := slowWrite(b), slowWrite(api.Object{Kind: 8, Data: some(1)})
	began, good, bad := runtime.NumGoroutine(), answers(a, b, block), answers(b, b, wrong)
	if now := runtime.NumGoroutine(); now > began {
		t.Errorf("%d goroutines; there were %d", now, began)
	}
	var wait sync.WaitGroup
	for range 8 {
		wait.Go(func() {
			for range 200 {
				if answers(a, b, block) != good || answers(b, b, wrong) != bad {
					t.Error("a call has two answers")
				}
			}
		})
	}
	wait.Wait()
}
