package set_test

import (
	"bytes"
	"fmt"
	"maps"
	"math"
	"math/bits"
	"runtime"
	"slices"
	"strings"
	"sync"
	"testing"

	"charterhouse/api"
	"charterhouse/obj"
	"charterhouse/ptr"
	"charterhouse/set"
	"charterhouse/store"
)

// The edges of numbers, as the document has them.
const (
	objects    = 16
	places     = 15 // of an object's data
	mostBirth  = 1<<24 - 1
	mostNumber = 1<<32 - 1
	rootAt     = 60
	firstAt    = 100 // where the block of object 0 stands
)

var none, nothing = api.Ptr{}, api.Object{}

// text is a block of bytes, another one for each n up to 255. By its first byte it is neither a row nor an object's.
func text(n int) []byte {
	b := make([]byte, 256)
	for i := range b {
		b[i] = byte(i*37 + n*11)
	}
	b[0] = 9
	return b
}

// slowTurn turns four words, as chapter 2 says it, n times.
func slowTurn(x [4]uint32, n int) [4]uint32 {
	for range n {
		for _, by := range [][2]int{{15, 11}, {9, 6}} {
			x[0] += x[1]
			x[3] = bits.RotateLeft32(x[3]^x[0], by[0])
			x[2] += x[3]
			x[1] = bits.RotateLeft32(x[1]^x[2], by[1])
		}
	}
	return x
}

// slowSum is that of a block: as many bytes as need no more noughts behind the 1 than seven.
func slowSum(b []byte) uint32 {
	number := func(b []byte) uint32 {
		return uint32(b[0]) + uint32(b[1])*256 + uint32(b[2])*65536 + uint32(b[3])*16777216
	}
	x, all := [4]uint32{1, 2, 3, 4}, slices.Concat(b, []byte{1, 0, 0, 0, 0, 0, 0, 0})
	for ; len(all) > 0; all = all[8:] {
		x[0] ^= number(all)
		x[2] ^= number(all[4:])
		x = slowTurn(x, 4)
	}
	x[1] ^= uint32(len(b))
	return slowTurn(x, 8)[0]
}

// slowPtr is made without package ptr, one byte after the other.
func slowPtr(p api.Ptr) []byte {
	b := []byte{byte(p.At), byte(p.Birth), byte(p.Birth / 256), byte(p.Birth / 65536)}
	for _, n := range []uint32{p.Iv, p.Tag, p.Sum} {
		b = append(b, byte(n), byte(n/256), byte(n/65536), byte(n/16777216))
	}
	return b
}

func slowRow(l []api.Ptr) []byte {
	var b []byte
	for _, p := range l {
		b = append(b, slowPtr(p)...)
	}
	return b
}

func slowObject(o api.Object) []byte {
	return append([]byte{o.Kind, byte(o.Links), byte(o.Size % 256), byte(o.Size / 256), 0, 0, 0, 0, 0, 0, 0, 0, 0, 0, 0, 0}, slowRow(o.Data)...)
}

// slowSame is made without package obj.
func slowSame(a, b api.Object) bool {
	return a.Kind == b.Kind && a.Links == b.Links && a.Size == b.Size && slices.Equal(a.Data, b.Data)
}

// thing is an object to be laid, in which sync it is born, and its block, where that is another one.
type thing struct {
	birth uint32
	o     api.Object
	block []byte
}

// dataset is one that was laid by hand: neither by package store nor by those of pointers and objects.
type dataset struct {
	s    api.Store
	root api.Ptr
	row  []api.Ptr
	all  map[int]thing
}

// bare is a store without a dataset: a text stands in each block, and of room to spare there is some. What is free counts for nothing: nor does it here.
func bare() api.Store {
	s := api.Store{Epoch: 9, Count: 299}
	for at := range 258 {
		s.Disk.Blocks = append(s.Disk.Blocks, slices.Concat(text(at), text(1))[:256])
		mark := byte(1)
		if at >= 12 {
			mark = byte(at * 7 % 3)
		}
		s.Space = append(s.Space, mark)
	}
	s.Disk.Blocks, s.Space = s.Disk.Blocks[:256], s.Space[:256]
	return s
}

// put sets the block at at, and tells the pointer to it.
func (d *dataset) put(at int, birth uint32, b []byte) api.Ptr {
	copy(d.s.Disk.Blocks[at], b)
	return api.Ptr{At: at, Birth: birth, Sum: slowSum(b)}
}

// laid is a dataset of these objects, whose root has that birth.
func laid(birth uint32, all map[int]thing) dataset {
	d := dataset{s: bare(), row: make([]api.Ptr, objects), all: all}
	for n, x := range all {
		block := x.block
		if block == nil {
			block = slowObject(x.o)
		}
		d.row[n] = d.put(firstAt+n*3, x.birth, block)
	}
	d.root = d.put(rootAt, birth, slowRow(d.row))
	return d
}

// turn turns a byte that lasts.
func (d *dataset) turn(at, byt int, by byte) {
	d.s.Disk.Blocks[at][byt] ^= by
}

// twin is d on a disk of its own.
func (d dataset) twin() dataset {
	d.s = slowTwin(d.s)
	return d
}

// below is a pointer, and those above it.
type below struct {
	p     api.Ptr
	above []api.Ptr
}

// pointers are all below the root, as the chapter's words have it.
func (d dataset) pointers() []below {
	if d.root == none {
		return nil
	}
	l := []below{{p: d.root}}
	for n := range objects {
		if d.row[n] == none {
			continue
		}
		l = append(l, below{d.row[n], []api.Ptr{d.root}})
		for _, p := range d.all[n].o.Data {
			if p != none {
				l = append(l, below{p, []api.Ptr{d.root, d.row[n]}})
			}
		}
	}
	return l
}

// young are those of all pointers that are, with all that are above them, born after that sync.
func (d dataset) young(after uint32) []api.Ptr {
	var l []api.Ptr
	for _, x := range d.pointers() {
		if !slices.ContainsFunc(append(x.above, x.p), func(p api.Ptr) bool { return p.Birth <= after }) {
			l = append(l, x.p)
		}
	}
	return l
}

// data are 15 holes, but for these. Behind them there is some room to spare.
func data(some map[int]api.Ptr) []api.Ptr {
	l := slices.Repeat([]api.Ptr{{At: 77, Birth: 3}}, places+3)
	for i := range places {
		l[i] = some[i]
	}
	return l[:places]
}

// at is a pointer to a block of data, all of whose numbers tell something; which is not the sum of what stands there.
func at(n int, birth uint32) api.Ptr {
	return api.Ptr{At: 12 + n%244, Birth: birth, Iv: uint32(n)*65537 + 1, Tag: uint32(n) * 2654435761, Sum: uint32(n) * 40503}
}

// example is that of the chapter: object 2, born in 5, with data at its places 0, born in 3, and 4, born in 5.
func example() dataset {
	return laid(5, map[int]thing{2: {birth: 5, o: api.Object{Kind: 1, Links: 1, Size: 1200, Data: data(map[int]api.Ptr{0: at(1, 3), 4: at(2, 5)})}}})
}

// full is a dataset that has all 16 objects, with data at all places, all born in one sync.
func full(birth uint32) dataset {
	return mixed(birth, func(int) uint32 { return birth })
}

// mixed is a dataset whose objects and their data are born as birth tells it, which is asked for one after the other: 0 for a hole, or no object.
func mixed(root uint32, birth func(n int) uint32) dataset {
	all, asked := map[int]thing{}, 0
	next := func() uint32 {
		asked++
		return birth(asked - 1)
	}
	for n := range objects {
		x := thing{birth: next(), o: api.Object{Kind: uint8(n%7 + 1), Links: n * 17, Size: n * 256}}
		some := map[int]api.Ptr{}
		for i := range places {
			if b := next(); b > 0 {
				some[i] = at(n*places+i, b)
			}
		}
		x.o.Data = data(some)
		if x.birth > 0 {
			all[n] = x
		}
	}
	return laid(root, all)
}

// rising is a dataset none of whose pointers is younger than the one above it, another one for each seed.
func rising(seed uint32) dataset {
	c := chances(seed)
	root := 1 + c.of(9)
	above := uint32(0)
	return mixed(root, func(n int) uint32 {
		if n%objects == 0 { // An object, which 15 places of data follow.
			above = c.of(root + 1)
			return above
		}
		return c.of(above + 1)
	})
}

// chance is a number that hangs on a seed alone.
type chance uint32

func chances(seed uint32) *chance {
	c := chance(seed*2654435761 + 12345)
	return &c
}

func (c *chance) of(n uint32) uint32 {
	*c = *c*1664525 + 1013904223
	return uint32(*c) >> 8 % n
}

// datasets are such as may be.
func datasets() map[string]dataset {
	all := map[string]dataset{
		"none":         {s: bare(), row: make([]api.Ptr, objects)},
		"none, New":    {s: store.New(), row: make([]api.Ptr, objects)},
		"no objects":   laid(5, nil),
		"example":      example(),
		"full":         full(4),
		"full, first":  full(1),
		"full, last":   full(mostBirth),
		"only heads":   mixed(3, func(n int) uint32 { return uint32(1 - min(n%objects, 1)) }),
		"first, last":  mixed(mostBirth, func(n int) uint32 { return []uint32{1, mostBirth, 0, mostBirth - 1}[n%4] }),
		"children":     mixed(2, func(n int) uint32 { return uint32(n%objects + 2) }),
		"far children": mixed(1, func(n int) uint32 { return uint32(n * n * 30011 % mostBirth) }),
		"all waits":    waits(full(6)),
		"some waits":   waits(example()),
		"shared":       shared(),
		"marked":       marked(),
	}
	for seed := range uint32(12) {
		c := chances(seed)
		all[fmt.Sprint("chance ", seed)] = mixed(1+c.of(7), func(int) uint32 { return c.of(8) })
		all[fmt.Sprint("rising ", seed)] = rising(seed)
	}
	return all
}

// waits is d, whose blocks wait to be written over what lasts; ahead of that others do.
func waits(d dataset) dataset {
	d = d.twin()
	first := len(d.row)
	for i, p := range append(slices.Clone(d.row), d.root) {
		if p != none {
			b := d.s.Disk.Blocks[p.At]
			d.s.Disk.Waits = append(d.s.Disk.Waits, api.Write{At: p.At, Data: text(i)}, api.Write{At: p.At, Data: b}, api.Write{At: 20 + i, Data: text(first)})
			d.s.Disk.Blocks[p.At] = text(i + 50)
		}
	}
	return d
}

// shared is a dataset whose objects 1 and 14 are the same one, and have one block of data twice.
func shared() dataset {
	d := laid(5, map[int]thing{
		1: {birth: 4, o: api.Object{Kind: 2, Data: data(map[int]api.Ptr{3: at(9, 4), 4: at(9, 4), 14: at(8, 3)})}},
		6: {birth: 3, o: api.Object{Kind: 1, Size: 9, Data: data(map[int]api.Ptr{0: at(9, 4)})}},
	})
	d.row[14], d.all[14] = d.row[1], d.all[1]
	d.root = d.put(rootAt, 5, slowRow(d.row))
	return d
}

// marked is a dataset whose pointers to plain blocks have numbers and tags, too, which count for nothing.
func marked() dataset {
	d := full(7)
	for n := range d.row {
		d.row[n].Iv, d.row[n].Tag = uint32(n)*16777619, mostNumber-uint32(n)
	}
	d.root = d.put(rootAt, 7, slowRow(d.row))
	d.root.Iv, d.root.Tag = mostNumber, 1<<31
	return d
}

// afters are numbers of syncs, about the edges, and greater ones.
func afters() []uint32 {
	l := []uint32{mostBirth - 2, mostBirth - 1, mostBirth, mostBirth + 1, mostBirth + 2, 1 << 25, 1 << 31, mostNumber - 1, mostNumber}
	for n := range uint32(12) {
		l = append(l, n)
	}
	return append(l, 255, 256, 257, 65535, 65536, 65537, 1<<20, 1<<23)
}

// wrongPtrs are those that may not be.
func wrongPtrs() []api.Ptr {
	wrong := []api.Ptr{{Birth: 1}, {Birth: mostBirth}, {Birth: mostNumber}, {Iv: 1}, {Tag: 1}, {Sum: 1}, {Sum: 1 << 31}, {At: rootAt}, {At: rootAt, Sum: 1}, {At: 12}, {At: 255, Iv: 1}}
	for _, at := range []int{1, 3, 4, 11, 256, 256 + rootAt, math.MaxInt, 1<<32 + rootAt, -1, rootAt - 256, math.MinInt} {
		wrong = append(wrong, api.Ptr{At: at, Birth: 5}, api.Ptr{At: at})
	}
	for _, birth := range []uint32{1 << 24, 1<<24 + 5, 1 << 31, mostNumber} {
		wrong = append(wrong, api.Ptr{At: rootAt, Birth: birth}, api.Ptr{At: 12, Birth: birth, Sum: 5})
	}
	return wrong
}

// wrongStores are those that may not be, each but for one thing that of example.
func wrongStores() map[string]api.Store {
	wrong := map[string]api.Store{"nothing": {}}
	with := func(what string, turn func(s *api.Store)) {
		s := example().s
		turn(&s)
		wrong[what] = s
	}
	with("no disk", func(s *api.Store) { s.Disk = api.Disk{} })
	with("one block less", func(s *api.Store) { s.Disk.Blocks = s.Disk.Blocks[:255] })
	with("one block more", func(s *api.Store) { s.Disk.Blocks = append(s.Disk.Blocks, text(1)) })
	with("a short block", func(s *api.Store) { s.Disk.Blocks[255] = s.Disk.Blocks[255][:255] })
	with("a long block", func(s *api.Store) { s.Disk.Blocks[0] = append(s.Disk.Blocks[0], 0) })
	with("a short root", func(s *api.Store) { s.Disk.Blocks[rootAt] = s.Disk.Blocks[rootAt][:255] })
	with("a write to 256", func(s *api.Store) { s.Disk.Waits = []api.Write{{At: 256, Data: text(1)}} })
	with("a short write", func(s *api.Store) { s.Disk.Waits = []api.Write{{At: 30, Data: text(1)[:255]}} })
	with("too many writes", func(s *api.Store) { s.Disk.Waits = slices.Repeat([]api.Write{{At: 30, Data: text(1)}}, 4097) })
	with("no table", func(s *api.Store) { s.Space = nil })
	with("a short table", func(s *api.Store) { s.Space = s.Space[:255] })
	with("a long table", func(s *api.Store) { s.Space = s.Space[:257] })
	with("a fixed one is free", func(s *api.Store) { s.Space[11] = 0 })
	with("another mark", func(s *api.Store) { s.Space[255] = 3 })
	with("Epoch 0", func(s *api.Store) { s.Epoch = 0 })
	with("Epoch 65536", func(s *api.Store) { s.Epoch = 1 << 16 })
	with("Count 65536", func(s *api.Store) { s.Count = 1 << 16 })
	return wrong
}

// noRows are blocks that are not.
func noRows() map[string][]byte {
	all := map[string][]byte{
		"a text":                  text(3),
		"an object":               slowObject(api.Object{Kind: 1, Data: data(nil)}),
		"bytes 11":                bytes.Repeat([]byte{11}, 256),
		"an object with pointers": slowObject(api.Object{Kind: 7, Links: 3, Size: 5, Data: data(map[int]api.Ptr{2: at(1, 2)})}),
	}
	for at := range objects {
		for i, p := range []api.Ptr{{At: 11, Birth: 1}, {At: 12}, {Birth: 1}, {Sum: 1 << 31}} {
			row := make([]api.Ptr, objects)
			row[at] = p
			all[fmt.Sprint("a wrong one, ", i, " at ", at)] = slowRow(row)
		}
	}
	return all
}

// noObjects are blocks that are of none.
func noObjects() map[string][]byte {
	good := slowObject(api.Object{Kind: 3, Links: 255, Size: 3840, Data: data(map[int]api.Ptr{0: at(1, 9), 14: at(2, 9)})})
	with := func(at int, by byte) []byte {
		b := bytes.Clone(good)
		b[at] = by
		return b
	}
	all := map[string][]byte{
		"noughts":    make([]byte, 256),
		"a text":     text(4),
		"a row":      slowRow(slices.Repeat([]api.Ptr{at(3, 4)}, objects)),
		"Kind 0":     with(0, 0),
		"Kind 8":     with(0, 8),
		"Kind 255":   with(0, 255),
		"Size 3841":  with(2, 1),
		"Size 65280": with(3, 255),
		"no nought":  with(4, 1),
		"the last":   with(15, 1),
	}
	for i := range places {
		all[fmt.Sprint("block 11 at ", i)] = with(16+i*16, 11)
		all[fmt.Sprint("a hole's sum at ", i)] = slowObject(api.Object{Kind: 1, Data: data(map[int]api.Ptr{i: {Sum: 1}})})
	}
	return all
}

// room is a list with all that lies in the room to spare behind it.
func room[T any](l []T) []T {
	return l[:cap(l)]
}

// whole tells all that a store has, the room to spare behind its lists too.
func whole(s api.Store) string {
	var told strings.Builder
	fmt.Fprintln(&told, s.Epoch, s.Count, len(s.Space), string(room(s.Space)), len(s.Disk.Blocks), len(s.Disk.Waits))
	for _, b := range room(s.Disk.Blocks) {
		fmt.Fprintln(&told, len(b), string(room(b)))
	}
	for _, w := range room(s.Disk.Waits) {
		fmt.Fprintln(&told, w.At, len(w.Data), string(room(w.Data)))
	}
	return told.String()
}

// slowTwin keeps nothing of s, not even its room to spare.
func slowTwin(s api.Store) api.Store {
	out := api.Store{Space: []byte(string(s.Space)), Epoch: s.Epoch, Count: s.Count}
	for _, b := range s.Disk.Blocks {
		out.Disk.Blocks = append(out.Disk.Blocks, []byte(string(b)))
	}
	for _, w := range s.Disk.Waits {
		out.Disk.Waits = append(out.Disk.Waits, api.Write{At: w.At, Data: []byte(string(w.Data))})
	}
	return out
}

// wantPtrs asks that beside an error there is no list; so the other ones do.
func wantPtrs(t *testing.T, what string, s api.Store, root api.Ptr, want []api.Ptr, e api.Errno) {
	t.Helper()
	if l, got := set.Ptrs(s, root); !slices.Equal(l, want) || got != e {
		t.Errorf("%s: Ptrs(.., %v) = %v, %d; want %v, %d", what, root, l, got, want, e)
	}
}

func wantObject(t *testing.T, what string, s api.Store, root api.Ptr, n int, want api.Object, e api.Errno) {
	t.Helper()
	if o, got := set.Object(s, root, n); !slowSame(o, want) || got != e {
		t.Errorf("%s: Object(.., %v, %d) = %v, %d; want %v, %d", what, root, n, o, got, want, e)
	}
}

func wantWalk(t *testing.T, what string, s api.Store, root api.Ptr, after uint32, want []api.Ptr, e api.Errno) {
	t.Helper()
	if l, got := set.Walk(s, root, after); !slices.Equal(l, want) || got != e {
		t.Errorf("%s: Walk(.., %v, %d) = %v, %d; want %v, %d", what, root, after, l, got, want, e)
	}
}

// wantAll tries all that is promised of a dataset in which nothing is wrong.
func wantAll(t *testing.T, what string, d dataset) {
	t.Helper()
	wantPtrs(t, what, d.s, d.root, d.row, api.OK)
	for n := range objects {
		if x, is := d.all[n]; is {
			wantObject(t, what, d.s, d.root, n, x.o, api.OK)
		} else {
			wantObject(t, what, d.s, d.root, n, nothing, api.ErrNone)
		}
	}
	for _, after := range afters() {
		wantWalk(t, what, d.s, d.root, after, d.young(after), api.OK)
	}
}

// Whether the store and the root may be is asked ahead of all else: of n, of whether there is an object, and of whether the root is young.
func TestP151WrongArguments(t *testing.T) {
	d := example()
	wrong := wrongStores()
	wrong["example"] = d.s
	for what, s := range wrong {
		roots := wrongPtrs()
		if what != "example" {
			roots = append(roots, none, d.root)
		}
		for _, root := range roots {
			wantPtrs(t, what, s, root, nil, api.ErrBad)
			for _, n := range []int{0, 2, 15, -1, 16, math.MaxInt} {
				wantObject(t, what, s, root, n, nothing, api.ErrBad)
			}
			for _, after := range []uint32{0, 4, 5, mostNumber} {
				wantWalk(t, what, s, root, after, nil, api.ErrBad)
			}
		}
	}
}

// What none has: 16 pointers that are none, no object, nothing to be walked.
func TestP151None(t *testing.T) {
	for what, s := range map[string]api.Store{"New": store.New(), "bare": bare(), "example": example().s} {
		wantPtrs(t, what, s, none, make([]api.Ptr, 16), api.OK)
		for n := range objects {
			wantObject(t, what, s, none, n, nothing, api.ErrNone)
		}
		for _, n := range wrongNumbers() {
			wantObject(t, what, s, none, n, nothing, api.ErrArg)
		}
		for _, after := range afters() {
			wantWalk(t, what, s, none, after, nil, api.OK)
		}
	}
}

// A row and an object that were laid by hand, byte by byte.
func TestP151ByHand(t *testing.T) {
	s := store.New()
	block := s.Disk.Blocks[30]
	block[0], block[1], block[2] = 3, 9, 44
	block[3] = 1
	block[16+13*16], block[16+13*16+1], block[16+13*16+4] = 255, 2, 7
	o := api.Object{Kind: 3, Links: 9, Size: 300, Data: make([]api.Ptr, places)}
	o.Data[13] = api.Ptr{At: 255, Birth: 2, Iv: 7}
	p := api.Ptr{At: 30, Birth: 0x010203, Sum: slowSum(block)}
	row := s.Disk.Blocks[12]
	row[11*16], row[11*16+1], row[11*16+2], row[11*16+3] = 30, 3, 2, 1
	for i := range 4 {
		row[11*16+12+i] = byte(p.Sum >> (8 * i))
	}
	root := api.Ptr{At: 12, Birth: 0x010204, Sum: slowSum(row)}
	want := make([]api.Ptr, objects)
	want[11] = p
	wantPtrs(t, "by hand", s, root, want, api.OK)
	wantObject(t, "by hand", s, root, 11, o, api.OK)
	wantObject(t, "by hand", s, root, 10, nothing, api.ErrNone)
	wantWalk(t, "by hand", s, root, 0, []api.Ptr{root, p, {At: 255, Birth: 2, Iv: 7}}, api.OK)
	wantWalk(t, "by hand", s, root, 2, []api.Ptr{root, p}, api.OK)
	wantWalk(t, "by hand", s, root, 0x010203, []api.Ptr{root}, api.OK)
}

// Sums as they were reckoned apart from this program.
func TestP151Sums(t *testing.T) {
	if got := slowSum(make([]byte, 256)); got != 0x641d1b06 {
		t.Errorf("noughts: %08x", got)
	}
	if got := slowSum(bytes.Repeat([]byte{255}, 256)); got != 0x5efb768f {
		t.Errorf("bytes 255: %08x", got)
	}
	root := api.Ptr{At: 200, Birth: 1, Sum: 0x641d1b06}
	wantPtrs(t, "noughts", store.New(), root, make([]api.Ptr, 16), api.OK)
	wantWalk(t, "noughts", store.New(), root, 0, []api.Ptr{root}, api.OK)
	root.Sum++
	wantPtrs(t, "another sum", store.New(), root, nil, api.ErrSum)
}

func TestP15All(t *testing.T) {
	for what, d := range datasets() {
		wantAll(t, what, d)
	}
}

// Each place of a row, and each of an object's data, by itself.
func TestP15EachPlace(t *testing.T) {
	for n := range objects {
		for i := range places {
			o := api.Object{Kind: 1, Size: i, Data: data(map[int]api.Ptr{i: at(n*places+i, 2)})}
			d := laid(3, map[int]thing{n: {birth: 2, o: o}})
			what := fmt.Sprint("object ", n, ", data at ", i)
			wantPtrs(t, what, d.s, d.root, d.row, api.OK)
			wantObject(t, what, d.s, d.root, n, o, api.OK)
			wantObject(t, what, d.s, d.root, (n+1)%objects, nothing, api.ErrNone)
			wantWalk(t, what, d.s, d.root, 1, []api.Ptr{d.root, d.row[n], o.Data[i]}, api.OK)
			wantWalk(t, what, d.s, d.root, 2, []api.Ptr{d.root}, api.OK)
		}
	}
}

// Wherever root and objects stand, from the first block that is taken to the last one.
func TestP15EachBlock(t *testing.T) {
	for at := 12; at < 256; at++ {
		d, other := example(), 12+(at+100)%244
		p := d.put(other, 5, slowObject(d.all[2].o))
		d.row[2] = p
		d.root = d.put(at, 5, slowRow(d.row))
		wantAll(t, fmt.Sprint("a root at ", at, ", an object at ", other), d)
	}
}

// wrongNumbers are those of no object, also such as have the number of one in their lowest bits.
func wrongNumbers() []int {
	l := []int{-1, -2, -14, -15, -16, -256, 16, 17, 18, 31, 32, 255, 256, 258, 1 << 16, 1<<16 + 2, 1 << 32, 1<<32 + 2, math.MinInt32, math.MaxInt32, math.MinInt, math.MinInt + 2, math.MaxInt}
	for n := 32; n < 300; n++ {
		l = append(l, n, -n)
	}
	return l
}

// Which numbers there are is asked ahead of whether the root can be read.
func TestP151Numbers(t *testing.T) {
	turned, bad := example(), example()
	turned.turn(rootAt, 0, 1)
	bad.root = bad.put(rootAt, 5, text(1))
	for _, n := range wrongNumbers() {
		for what, d := range map[string]dataset{"example": example(), "full": full(1), "turned": turned, "bad": bad} {
			wantObject(t, what, d.s, d.root, n, nothing, api.ErrArg)
		}
	}
}

// wantNoRow tries a root that can't be read: whether the object is there is not told then. Nothing is read for one that is not young.
func wantNoRow(t *testing.T, what string, d dataset, e api.Errno) {
	t.Helper()
	wantPtrs(t, what, d.s, d.root, nil, e)
	for _, n := range []int{0, 2, 3, 15} {
		wantObject(t, what, d.s, d.root, n, nothing, e)
	}
	wantWalk(t, what, d.s, d.root, 0, nil, e)
	wantWalk(t, what, d.s, d.root, d.root.Birth-1, nil, e)
	wantWalk(t, what, d.s, d.root, d.root.Birth, nil, api.OK)
	wantWalk(t, what, d.s, d.root, mostNumber, nil, api.OK)
}

func TestP151RootTurned(t *testing.T) {
	for byt := range 256 {
		for _, by := range []byte{1, 128, 255, byte(byt) | 2} {
			d := example()
			d.turn(rootAt, byt, by)
			wantNoRow(t, fmt.Sprintf("byte %d of the root turned by %d", byt, by), d, api.ErrSum)
		}
	}
	d := example()
	d.turn(rootAt, 7, 9)
	d.turn(rootAt, 7, 9)
	wantAll(t, "turned back", d)
	for bit := range 32 {
		d := example()
		d.root.Sum ^= 1 << bit
		wantNoRow(t, fmt.Sprint("another sum, by bit ", bit), d, api.ErrSum)
	}
}

// The sum of the root's block is asked ahead of whether it is a row.
func TestP151NoRow(t *testing.T) {
	for what, block := range noRows() {
		d := example()
		d.root = d.put(rootAt, 5, block)
		wantNoRow(t, what, d, api.ErrBad)
		d.root.Sum++
		wantNoRow(t, what+", and another sum", d, api.ErrSum)
	}
}

// What waits to be written over a root is what is read.
func TestP151RootWaits(t *testing.T) {
	d := example()
	d.s.Disk.Waits = []api.Write{{At: rootAt, Data: text(1)}}
	wantNoRow(t, "it waits", d, api.ErrSum)
	d.s.Disk.Waits = append(d.s.Disk.Waits, api.Write{At: rootAt, Data: slowRow(d.row)})
	wantAll(t, "written once more", d)
	d.s.Disk.Waits = append(d.s.Disk.Waits, api.Write{At: d.row[2].At, Data: text(1)})
	wantObject(t, "an object waits", d.s, d.root, 2, nothing, api.ErrSum)
	wantPtrs(t, "an object waits", d.s, d.root, d.row, api.OK)
}

// wantNoObject tries a dataset whose object n, born in 5, can't be read, and all others of which can.
func wantNoObject(t *testing.T, what string, d dataset, n int, e api.Errno) {
	t.Helper()
	wantPtrs(t, what, d.s, d.root, d.row, api.OK)
	wantObject(t, what, d.s, d.root, n, nothing, e)
	for other, x := range d.all {
		if other != n {
			wantObject(t, what, d.s, d.root, other, x.o, api.OK)
		}
	}
	for after := range uint32(5) {
		wantWalk(t, what, d.s, d.root, after, nil, e)
	}
	for _, after := range []uint32{5, 6, 7, mostNumber} {
		wantWalk(t, what, d.s, d.root, after, d.young(after), api.OK)
	}
}

// some is a dataset of full ones but n, which was born in 5; those beside it have other births, the root 6.
func some(n int, block []byte) dataset {
	all := maps.Clone(full(6).all)
	for other, x := range all {
		x.birth = uint32(other%7 + 1)
		all[other] = x
	}
	x := all[n]
	x.birth, x.block = 5, block
	all[n] = x
	return laid(6, all)
}

func TestP151ObjectTurned(t *testing.T) {
	for byt := range 256 {
		n := byt % objects
		d := some(n, nil)
		d.turn(d.row[n].At, byt, byte(byt)|1)
		wantNoObject(t, fmt.Sprintf("byte %d of object %d turned", byt, n), d, n, api.ErrSum)
	}
	for bit := range 32 {
		n := bit % objects
		d := some(n, nil)
		d.row[n].Sum ^= 1 << bit
		d.root = d.put(rootAt, 6, slowRow(d.row))
		wantNoObject(t, fmt.Sprintf("another sum of object %d, by bit %d", n, bit), d, n, api.ErrSum)
	}
}

// The sum of an object's block is asked ahead of whether it is one's.
func TestP151NoObject(t *testing.T) {
	for what, block := range noObjects() {
		for _, n := range []int{0, 7, 15} {
			d := some(n, block)
			what := fmt.Sprint(what, ", object ", n)
			wantNoObject(t, what, d, n, api.ErrBad)
			d.turn(d.row[n].At, 100, 1)
			wantNoObject(t, what+", turned", d, n, api.ErrSum)
		}
	}
}

// What stands in blocks of data is not asked, nor what their pointers tell of it.
func TestP15DataUnread(t *testing.T) {
	d := full(4)
	for n, p := range d.row {
		d.all[n].o.Data[n%places] = api.Ptr{At: rootAt, Birth: 4, Sum: d.root.Sum + 1}
		d.all[n].o.Data[(n+1)%places] = p
	}
	d = laid(4, d.all)
	for at := 12; at < 256; at++ {
		if at != rootAt && !slices.ContainsFunc(d.row, func(p api.Ptr) bool { return p.At == at }) {
			d.turn(at, at, 255)
		}
	}
	wantAll(t, "data turned", d)
}

// two is a full dataset, two of whose objects can't be read: the sum of one is another one, the other one is no object's block.
func two(turned, bad int, turnedBirth, badBirth uint32) dataset {
	all := full(5).all
	x, y := all[turned], all[bad]
	x.birth = turnedBirth
	y.birth, y.block = badBirth, text(1)
	all[turned], all[bad] = x, y
	d := laid(5, all)
	d.turn(d.row[turned].At, 20, 8)
	return d
}

// The error of the object that stands first is told, whichever it is.
func TestP152FirstError(t *testing.T) {
	for turned := range objects {
		for bad := range objects {
			if turned == bad {
				continue
			}
			first, what := api.ErrSum, fmt.Sprint(turned, " turned, ", bad, " bad")
			if bad < turned {
				first = api.ErrBad
			}
			d := two(turned, bad, 5, 5)
			wantWalk(t, what, d.s, d.root, 0, nil, first)
			wantWalk(t, what, d.s, d.root, 4, nil, first)
			wantWalk(t, what, d.s, d.root, 5, nil, api.OK)
		}
	}
}

// But of those alone that are young: no other one is read.
func TestP152YoungError(t *testing.T) {
	for turned := range objects {
		for _, by := range []int{1, 5, 15} {
			bad := (turned + by) % objects
			what := fmt.Sprint(turned, " turned, ", bad, " bad")
			d := two(turned, bad, 3, 5)
			wantWalk(t, what, d.s, d.root, 3, nil, api.ErrBad)
			wantWalk(t, what, d.s, d.root, 4, nil, api.ErrBad)
			d = two(turned, bad, 5, 3)
			wantWalk(t, what, d.s, d.root, 3, nil, api.ErrSum)
			wantWalk(t, what, d.s, d.root, 4, nil, api.ErrSum)
			d = two(turned, bad, 3, 4)
			wantWalk(t, what, d.s, d.root, 3, nil, api.ErrBad)
			wantWalk(t, what, d.s, d.root, 4, d.young(4), api.OK)
		}
	}
}

// Ahead of all objects' errors comes the root's.
func TestP152RootFirst(t *testing.T) {
	d := some(0, text(1))
	d.turn(d.row[3].At, 1, 1)
	d.turn(rootAt, 1, 1)
	wantWalk(t, "all wrong", d.s, d.root, 0, nil, api.ErrSum)
	d = some(0, nil)
	d.turn(d.row[0].At, 1, 1)
	d.row[15] = api.Ptr{At: 11, Birth: 1}
	d.root = d.put(rootAt, 6, slowRow(d.row))
	wantWalk(t, "the row's last one", d.s, d.root, 0, nil, api.ErrBad)
	wantWalk(t, "the row's last one", d.s, d.root, 6, nil, api.OK)
}

// All are in order: the root, then object by object.
func TestP152Order(t *testing.T) {
	d := full(5)
	var want []api.Ptr
	want = append(want, d.root)
	for n := range objects {
		want = append(append(want, d.row[n]), d.all[n].o.Data...)
	}
	if len(want) != 1+16+16*15 {
		t.Fatal(len(want))
	}
	wantWalk(t, "full", d.s, d.root, 0, want, api.OK)
	wantWalk(t, "full", d.s, d.root, 4, want, api.OK)
	wantWalk(t, "full", d.s, d.root, 5, nil, api.OK)
}

// What is below a pointer that is not young counts for nothing, be it ever so young.
func TestP152Below(t *testing.T) {
	o := api.Object{Kind: 1, Data: data(map[int]api.Ptr{0: at(1, 9), 1: at(2, 4), 14: at(3, 5)})}
	d := laid(6, map[int]thing{0: {birth: 4, o: o}, 1: {birth: 8, o: o}, 15: {birth: 5, o: o}})
	both := []api.Ptr{at(1, 9), at(3, 5)}
	one := []api.Ptr{at(1, 9)}
	wantWalk(t, "after 3", d.s, d.root, 3, slices.Concat([]api.Ptr{d.root, d.row[0]}, o.Data[:2], o.Data[14:], []api.Ptr{d.row[1]}, o.Data[:2], o.Data[14:], []api.Ptr{d.row[15]}, o.Data[:2], o.Data[14:]), api.OK)
	wantWalk(t, "after 4", d.s, d.root, 4, slices.Concat([]api.Ptr{d.root, d.row[1]}, both, []api.Ptr{d.row[15]}, both), api.OK)
	wantWalk(t, "after 5", d.s, d.root, 5, slices.Concat([]api.Ptr{d.root, d.row[1]}, one), api.OK)
	wantWalk(t, "after 6", d.s, d.root, 6, nil, api.OK)
}

// spoil turns all that a store has, the room to spare behind its lists too.
func spoil(s api.Store) {
	for _, b := range append(slices.Clone(s.Disk.Blocks), s.Space) {
		clear(room(b))
	}
	for _, w := range s.Disk.Waits {
		clear(room(w.Data))
	}
	clear(room(s.Disk.Blocks))
	clear(room(s.Disk.Waits))
}

func TestP153OnlyReads(t *testing.T) {
	turned, bad := full(3), some(4, text(9))
	turned.turn(rootAt, 3, 3)
	all := datasets()
	all["turned"], all["bad"] = turned, bad
	for what, s := range wrongStores() {
		all[what] = dataset{s: s, root: example().root}
	}
	for what, d := range all {
		was := whole(d.s)
		for _, root := range []api.Ptr{d.root, none, {At: 13, Birth: 4}, {At: 11}} {
			set.Ptrs(d.s, root)
			for n := -1; n < 17; n++ {
				set.Object(d.s, root, n)
			}
			for after := range uint32(9) {
				set.Walk(d.s, root, after)
			}
			if whole(d.s) != was {
				t.Fatalf("%s: something of the store is turned", what)
			}
		}
	}
}

// What is answered stays what it is when what was handed in, or another answer, is turned, and the other way round.
func TestP153IsNewMemory(t *testing.T) {
	for what, d := range datasets() {
		was := whole(d.s)
		one, _ := set.Ptrs(d.s, d.root)
		other, _ := set.Ptrs(d.s, d.root)
		walked, _ := set.Walk(d.s, d.root, 0)
		again, _ := set.Walk(d.s, d.root, 0)
		read := map[int]api.Object{}
		for n := range d.all {
			o, _ := set.Object(d.s, d.root, n)
			read[n], _ = set.Object(d.s, d.root, n)
			clear(room(o.Data))
		}
		clear(room(other))
		clear(room(again))
		if whole(d.s) != was {
			t.Errorf("%s: an answer shares memory with the store", what)
		}
		spoil(d.s)
		if !slices.Equal(one, d.row) || !slices.Equal(walked, d.young(0)) {
			t.Errorf("%s: a list shares memory: %v, %v", what, one, walked)
		}
		for n, o := range read {
			if !slowSame(o, d.all[n].o) {
				t.Errorf("%s: object %d shares memory: %v", what, n, o)
			}
		}
	}
}

// Also what none has is new each time.
func TestP153NoneIsNew(t *testing.T) {
	s := store.New()
	l, _ := set.Ptrs(s, none)
	for i := range room(l) {
		room(l)[i] = at(i, 1)
	}
	wantPtrs(t, "once more", s, none, make([]api.Ptr, 16), api.OK)
}

// Where births do not rise downward, the young ones are just those of all that are born later; a root that is not young has none.
func TestP154Rising(t *testing.T) {
	many := 0
	for seed := range uint32(150) {
		d := rising(seed)
		all, e := set.Walk(d.s, d.root, 0)
		if e != api.OK || len(all) == 0 {
			t.Fatalf("seed %d: %d, %d", seed, len(all), e)
		}
		for after := range uint32(11) {
			later := slices.DeleteFunc(slices.Clone(all), func(p api.Ptr) bool { return p.Birth <= after })
			wantWalk(t, fmt.Sprint("seed ", seed), d.s, d.root, after, later, api.OK)
			if d.root.Birth <= after && len(later) > 0 {
				t.Fatalf("seed %d: the births do rise", seed)
			}
			if len(later) > 0 && len(later) < len(all) {
				many++
			}
		}
	}
	if many < 300 {
		t.Errorf("%d of the walks had some and not all", many)
	}
}

// Also a sync after which nothing below was born has its own root alone.
func TestP154RootAlone(t *testing.T) {
	for _, birth := range []uint32{2, 256, 65536, mostBirth} {
		d := mixed(birth, func(int) uint32 { return birth - 1 })
		wantWalk(t, "the root alone", d.s, d.root, birth-1, []api.Ptr{d.root}, api.OK)
		wantWalk(t, "not young", d.s, d.root, birth, nil, api.OK)
	}
}

// A dataset that the layers below lay is read as it was laid.
func TestP15ByLayers(t *testing.T) {
	s, row := store.New(), make([]api.Ptr, objects)
	lay := func(birth uint32, b []byte, e api.Errno) (p api.Ptr) {
		t.Helper()
		if e == api.OK {
			s, p, e = store.Lay(s, birth, b)
		}
		if e != api.OK {
			t.Fatal(e)
		}
		return p
	}
	d := dataset{all: map[int]thing{}}
	for n := 0; n < objects; n += 5 {
		o := api.Object{Kind: 2, Links: n, Size: n * 100, Data: make([]api.Ptr, places)}
		for i := n % 3; i < places; i += 3 {
			var e api.Errno
			if s, o.Data[i], e = store.Seal(s, uint32(i+1), text(n)[:16], text(i)); e != api.OK {
				t.Fatal(e)
			}
		}
		b, e := obj.Write(o)
		row[n] = lay(uint32(n+2), b, e)
		d.all[n] = thing{birth: uint32(n + 2), o: o}
	}
	b, e := ptr.Row(row)
	d.root = lay(17, b, e)
	d.s, d.row = s, row
	wantAll(t, "by layers", d)
}

func TestExamples(t *testing.T) {
	d := example()
	for after, many := range map[uint32]int{0: 4, 3: 3, 5: 0} {
		if l, e := set.Walk(d.s, d.root, after); len(l) != many || e != api.OK {
			t.Errorf("Walk(D, %d): %d, %d; want %d", after, len(l), e, many)
		}
	}
	if o, e := set.Object(d.s, d.root, 2); e != api.OK || o.Data[4] != at(2, 5) {
		t.Errorf("Object(D, 2): %v, %d", o, e)
	}
	wantObject(t, "D", d.s, d.root, 3, nothing, api.ErrNone)
	wantObject(t, "D", d.s, d.root, 16, nothing, api.ErrArg)
	if l, e := set.Ptrs(d.s, none); len(l) != 16 || e != api.OK {
		t.Errorf("Ptrs(.., none): %v, %d", l, e)
	}
}

// answers are all that the calls answer to a store and a root, as a text.
func answers(s api.Store, root api.Ptr) string {
	var told strings.Builder
	l, e := set.Ptrs(s, root)
	fmt.Fprintln(&told, l, e)
	for n := -1; n < 17; n++ {
		o, e := set.Object(s, root, n)
		fmt.Fprintln(&told, o, e)
	}
	for _, after := range []uint32{0, 1, 4, 5, mostBirth, mostNumber} {
		l, e := set.Walk(s, root, after)
		fmt.Fprintln(&told, l, e)
	}
	return told.String()
}

func TestR1AllEnd(t *testing.T) {
	some := wrongStores()
	some["New"], some["example"], some["full"] = store.New(), example().s, full(mostBirth).s
	some["great"] = api.Store{Disk: api.Disk{Blocks: make([][]byte, 1<<16), Waits: make([]api.Write, 1<<16)}, Space: make([]byte, 1<<20)}
	for _, s := range some {
		for _, root := range append(wrongPtrs(), none, example().root, full(mostBirth).root, api.Ptr{At: 12, Birth: 1}, api.Ptr{At: 255, Birth: mostBirth, Iv: 1, Tag: 1, Sum: 1}) {
			answers(s, root)
		}
	}
	for _, n := range wrongNumbers() {
		set.Object(example().s, example().root, n)
		set.Object(store.New(), none, n)
	}
}

// No pointer leads a walk further than two blocks down: also where all of them lead back to one row.
func TestR1Back(t *testing.T) {
	d := full(5)
	for n := range objects {
		d.all[n] = thing{birth: 5, block: slowRow(d.row)}
	}
	d = laid(5, d.all)
	wantWalk(t, "rows for objects", d.s, d.root, 0, nil, api.ErrBad)
	for n, p := range full(5).row {
		d.all[n] = thing{birth: 5, o: api.Object{Kind: 1, Data: slices.Repeat([]api.Ptr{p}, places)}}
	}
	wantAll(t, "objects for data", laid(5, d.all))
}

// The same arguments have the same answers, also side by side, and no goroutine is left behind.
func TestR2ArgumentsAlone(t *testing.T) {
	d, wrong := full(5), some(7, text(1))
	began, want, wantWrong := runtime.NumGoroutine(), answers(d.s, d.root), answers(wrong.s, wrong.root)
	if now := runtime.NumGoroutine(); now > began {
		t.Errorf("%d goroutines; there were %d", now, began)
	}
	if answers(slowTwin(d.s), d.root) != want {
		t.Error("an answer hangs on the room to spare")
	}
	var wait sync.WaitGroup
	for range 8 {
		wait.Go(func() {
			for range 5 {
				if answers(d.s, d.root) != want || answers(wrong.s, wrong.root) != wantWrong {
					t.Error("a call has two answers")
				}
			}
		})
	}
	wait.Wait()
}
