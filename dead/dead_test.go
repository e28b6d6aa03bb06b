package dead_test

import (
	"bytes"
	"fmt"
	"math"
	"math/bits"
	"runtime"
	"slices"
	"strings"
	"sync"
	"testing"

	"charterhouse/api"
	"charterhouse/dead"
	"charterhouse/store"
)

// The edges of numbers, as the document has them.
const (
	firstBlock = 12
	lastBlock  = 255
	inRow      = 16
	mostDead   = 240
	mostWaits  = 4096
	mostBirth  = 1<<24 - 1
	mostNumber = 1<<32 - 1
	unused     = 0
	used       = 1
	later      = 2
)

var none = api.Ptr{}

// text is a block of bytes, another one for each n up to 255. By its first byte it is no row.
func text(n int) []byte {
	b := make([]byte, 256)
	for i := range b {
		b[i] = byte(i*37 + n*11)
	}
	b[0] = 9
	return b
}

// slowTurn turns four words, as chapter 2 says it, n times.
func slowTurn(x [4]uint32, n int) [4]uint32 {
	for range n {
		for _, by := range [][2]int{{15, 11}, {9, 6}} {
			x[0] += x[1]
			x[3] = bits.RotateLeft32(x[3]^x[0], by[0])
			x[2] += x[3]
			x[1] = bits.RotateLeft32(x[1]^x[2], by[1])
		}
	}
	return x
}

// slowSum is that of a block: as many bytes as need no more noughts behind the 1 than seven.
func slowSum(b []byte) uint32 {
	number := func(b []byte) uint32 {
		return uint32(b[0]) + uint32(b[1])*256 + uint32(b[2])*65536 + uint32(b[3])*16777216
	}
	x, all := [4]uint32{1, 2, 3, 4}, slices.Concat(b, []byte{1, 0, 0, 0, 0, 0, 0, 0})
	for ; len(all) > 0; all = all[8:] {
		x[0] ^= number(all)
		x[2] ^= number(all[4:])
		x = slowTurn(x, 4)
	}
	x[1] ^= uint32(len(b))
	return slowTurn(x, 8)[0]
}

// slowRow is made without package ptr, one byte after the other; behind its pointers stand noughts.
func slowRow(l []api.Ptr) []byte {
	var b []byte
	for _, p := range l {
		b = append(b, byte(p.At), byte(p.Birth), byte(p.Birth/256), byte(p.Birth/65536))
		for _, n := range []uint32{p.Iv, p.Tag, p.Sum} {
			b = append(b, byte(n), byte(n/256), byte(n/65536), byte(n/16777216))
		}
	}
	return append(b, make([]byte, 256-len(b))...)
}

// cut parts a list into rows.
func cut(l []api.Ptr) (rows [][]api.Ptr) {
	for i, p := range l {
		if i%inRow == 0 {
			rows = append(rows, nil)
		}
		rows[i/inRow] = append(rows[i/inRow], p)
	}
	return rows
}

// chance is a number that hangs on a seed alone.
type chance uint32

func chances(seed int) *chance {
	c := chance(uint32(seed)*2654435761 + 12345)
	return &c
}

func (c *chance) of(n int) int {
	*c = *c*1664525 + 1013904223
	return int(*c>>8) % n
}

// at is a pointer to that block, all of whose numbers tell something, of it and of n.
func at(block, n int) api.Ptr {
	return api.Ptr{At: block, Birth: uint32(1 + (block+n*5)%9), Iv: uint32(block*65537 + n), Tag: uint32(block*n+n) * 2654435761, Sum: uint32(block+n) * 40503}
}

// those are pointers to these blocks. Behind them lies some room to spare, with other ones.
func those(n int, blocks ...int) []api.Ptr {
	l := slices.Repeat([]api.Ptr{{At: 77, Birth: 3}}, len(blocks)+3)
	for i, block := range blocks {
		l[i] = at(block, n)
	}
	return l[:len(blocks)]
}

// every has many pointers, to blocks that are by steps apart.
func every(many, first, step int) []api.Ptr {
	blocks := make([]int, many)
	for i := range blocks {
		blocks[i] = first + i*step
	}
	return those(many, blocks...)
}

// some are many pointers to blocks that are chosen by lot.
func some(c *chance, many int) []api.Ptr {
	var l []api.Ptr
	for block := firstBlock; block <= lastBlock; block++ {
		if c.of(lastBlock+1-block) < many-len(l) {
			l = append(l, api.Ptr{At: block, Birth: uint32(1 + c.of(20)), Iv: uint32(c.of(1 << 24)), Tag: uint32(c.of(1<<24)) << 8, Sum: uint32(c.of(1 << 24))})
		}
	}
	return l
}

// with is l whose place i has p.
func with(l []api.Ptr, i int, p api.Ptr) []api.Ptr {
	l = slices.Clone(l)
	l[i] = p
	return l
}

// lists are such as may be.
func lists() map[string][]api.Ptr {
	all := map[string][]api.Ptr{
		"nil":             nil,
		"empty":           {},
		"empty, and room": those(1),
		"the first one":   those(1, 12),
		"the last one":    those(1, 255),
		"both":            those(1, 12, 255),
		"At alone":        {{At: 12, Birth: 1}, {At: 13, Birth: 1}},
		"greatest":        {{At: 100, Birth: mostBirth, Iv: mostNumber, Tag: mostNumber, Sum: mostNumber}},
		"the lowest 240":  every(mostDead, 12, 1),
		"the highest 240": every(mostDead, 16, 1),
		"all even ones":   every(122, 12, 2),
		"all odd ones":    every(122, 13, 2),
		"one birth":       {{At: 20, Birth: 7}, {At: 30, Birth: 7, Sum: 1}, {At: 31, Birth: 7}},
	}
	for _, many := range []int{2, 15, 16, 17, 31, 32, 33, 47, 48, 49, 100, 224, 225, 239, 240} {
		all[fmt.Sprint("the lowest ", many)] = every(many, 12, 1)
		all[fmt.Sprint("by lot, ", many)] = some(chances(many), many)
	}
	return all
}

// wrongPtrs are those that may not be in a list: also none.
func wrongPtrs() []api.Ptr {
	wrong := []api.Ptr{none, {Birth: 1}, {Birth: mostBirth}, {Birth: mostNumber}, {Iv: 1}, {Tag: 1}, {Sum: 1}, {Sum: 1 << 31}, {At: 20}, {At: 20, Sum: 1}, {At: 12}, {At: 255, Iv: 1}}
	for _, block := range []int{1, 3, 4, 11, 256, 256 + 20, math.MaxInt, 1<<32 + 20, -1, 20 - 256, math.MinInt} {
		wrong = append(wrong, api.Ptr{At: block, Birth: 5}, api.Ptr{At: block})
	}
	for _, birth := range []uint32{1 << 24, 1<<24 + 5, 1 << 31, mostNumber} {
		wrong = append(wrong, api.Ptr{At: 20, Birth: birth}, api.Ptr{At: 12, Birth: birth, Sum: 5})
	}
	return wrong
}

// wrongLists are those that may not be.
func wrongLists() map[string][]api.Ptr {
	all := map[string][]api.Ptr{
		"one more":            every(241, 12, 1),
		"all blocks":          every(244, 12, 1),
		"many too many":       every(1<<16, 12, 1),
		"256 more":            slices.Concat(every(240, 12, 1), every(16, 252, 1)),
		"one block twice":     those(1, 20, 20),
		"one pointer twice":   those(1, 12, 13, 13, 14),
		"the last ones twice": those(1, 12, 255, 255),
		"they fall":           those(1, 21, 20),
		"they fall far":       those(1, 20, 30, 40, 12),
		"the first one falls": those(1, 255, 20, 30, 40),
		"all the same":        slices.Repeat(those(1, 100), 240),
		"the same, too many":  slices.Repeat(those(1, 100), 241),
		"nones":               make([]api.Ptr, 16),
		"nones, too many":     make([]api.Ptr, 300),
		"a hole":              with(every(3, 12, 1), 1, none),
	}
	for i, p := range wrongPtrs() {
		all[fmt.Sprint("wrong, alone, ", i)] = []api.Ptr{p}
		for _, place := range []int{0, 7, 16, 239} {
			all[fmt.Sprint("wrong, ", i, " at ", place)] = with(every(240, 12, 1), place, p)
		}
	}
	for _, place := range []int{0, 1, 15, 16, 100, 238} {
		l := every(240, 12, 1)
		l[place], l[place+1] = l[place+1], l[place]
		all[fmt.Sprint("turned about at ", place)] = l
		l = every(240, 12, 1)
		l[place+1].At = l[place].At
		all[fmt.Sprint("twice at ", place)] = l
	}
	return all
}

// bare is a store that may be: a text stands in each block, some writes wait, and of room to spare there is some. free are the blocks that are free.
func bare(free ...int) api.Store {
	s := api.Store{Epoch: 9, Count: 299}
	for block := range 258 {
		s.Disk.Blocks = append(s.Disk.Blocks, slices.Concat(text(block), text(1))[:256])
		s.Space = append(s.Space, used)
		if block > 11 && block%7 == 0 {
			s.Space[block] = later
		}
	}
	for _, block := range free {
		s.Space[block] = unused
	}
	s.Disk.Waits = append(make([]api.Write, 0, 9), api.Write{At: 3, Data: text(4)}, api.Write{At: 20, Data: text(5)}, api.Write{At: 20, Data: text(6)})
	s.Disk.Blocks, s.Space = s.Disk.Blocks[:256], s.Space[:256]
	return s
}

// wrongStores are those that may not be, each but for one thing bare.
func wrongStores() map[string]api.Store {
	wrong := map[string]api.Store{"nothing": {}}
	with := func(what string, turn func(s *api.Store)) {
		s := bare(12, 13, 14)
		turn(&s)
		wrong[what] = s
	}
	with("no disk", func(s *api.Store) { s.Disk = api.Disk{} })
	with("one block less", func(s *api.Store) { s.Disk.Blocks = s.Disk.Blocks[:255] })
	with("one block more", func(s *api.Store) { s.Disk.Blocks = append(s.Disk.Blocks, text(1)) })
	with("a short block", func(s *api.Store) { s.Disk.Blocks[255] = s.Disk.Blocks[255][:255] })
	with("a long block", func(s *api.Store) { s.Disk.Blocks[0] = append(s.Disk.Blocks[0], 0) })
	with("a write to 256", func(s *api.Store) { s.Disk.Waits = []api.Write{{At: 256, Data: text(1)}} })
	with("a short write", func(s *api.Store) { s.Disk.Waits = []api.Write{{At: 30, Data: text(1)[:255]}} })
	with("too many writes", func(s *api.Store) { s.Disk.Waits = slices.Repeat([]api.Write{{At: 30, Data: text(1)}}, 4097) })
	with("no table", func(s *api.Store) { s.Space = nil })
	with("a short table", func(s *api.Store) { s.Space = s.Space[:255] })
	with("a long table", func(s *api.Store) { s.Space = s.Space[:257] })
	with("a fixed one is free", func(s *api.Store) { s.Space[11] = unused })
	with("another mark", func(s *api.Store) { s.Space[255] = 3 })
	with("Epoch 0", func(s *api.Store) { s.Epoch = 0 })
	with("Epoch 65536", func(s *api.Store) { s.Epoch = 1 << 16 })
	with("Count 65536", func(s *api.Store) { s.Count = 1 << 16 })
	return wrong
}

// room is a list with all that lies in the room to spare behind it.
func room[T any](l []T) []T {
	return l[:cap(l)]
}

// whole tells all that a store has, the room to spare behind its lists too.
func whole(s api.Store) string {
	var told strings.Builder
	fmt.Fprintln(&told, s.Epoch, s.Count, len(s.Space), string(room(s.Space)), len(s.Disk.Blocks), len(s.Disk.Waits))
	for _, b := range room(s.Disk.Blocks) {
		fmt.Fprintln(&told, len(b), string(room(b)))
	}
	for _, w := range room(s.Disk.Waits) {
		fmt.Fprintln(&told, w.At, len(w.Data), string(room(w.Data)))
	}
	return told.String()
}

// slowTwin keeps nothing of s, not even its room to spare.
func slowTwin(s api.Store) api.Store {
	out := api.Store{Space: []byte(string(s.Space)), Epoch: s.Epoch, Count: s.Count}
	for _, b := range s.Disk.Blocks {
		out.Disk.Blocks = append(out.Disk.Blocks, []byte(string(b)))
	}
	for _, w := range s.Disk.Waits {
		out.Disk.Waits = append(out.Disk.Waits, api.Write{At: w.At, Data: []byte(string(w.Data))})
	}
	return out
}

// spoil turns all that a store has, the room to spare behind its lists too.
func spoil(s api.Store) {
	for _, b := range append(slices.Clone(s.Disk.Blocks), s.Space) {
		clear(room(b))
	}
	for _, w := range s.Disk.Waits {
		clear(room(w.Data))
	}
	clear(room(s.Disk.Blocks))
	clear(room(s.Disk.Waits))
}

// differ tells in what s is not want; nothing, if they are the same.
func differ(s, want api.Store) string {
	switch {
	case s.Epoch != want.Epoch || s.Count != want.Count:
		return fmt.Sprintf("Epoch %d, Count %d; want %d, %d", s.Epoch, s.Count, want.Epoch, want.Count)
	case !bytes.Equal(s.Space, want.Space):
		return fmt.Sprintf("table %v; want %v", s.Space, want.Space)
	case !slices.EqualFunc(s.Disk.Blocks, want.Disk.Blocks, bytes.Equal):
		return "other blocks last"
	case !slices.EqualFunc(s.Disk.Waits, want.Disk.Waits, func(a, b api.Write) bool { return a.At == b.At && bytes.Equal(a.Data, b.Data) }):
		return fmt.Sprintf("%d writes wait, %d should, or others", len(s.Disk.Waits), len(want.Disk.Waits))
	}
	return ""
}

func isZero(s api.Store) bool {
	return len(s.Disk.Blocks) == 0 && len(s.Disk.Waits) == 0 && len(s.Space) == 0 && s.Epoch == 0 && s.Count == 0
}

// slowLay lays a list without the project's packages: s as it should be then, the pointer, and the blocks. It is asked where there is room.
func slowLay(s api.Store, birth uint32, l []api.Ptr) (out api.Store, p api.Ptr, own []int) {
	out = slowTwin(s)
	lay := func(row []api.Ptr) api.Ptr {
		b, block := slowRow(row), slices.Index(out.Space, unused)
		out.Space[block] = used
		out.Disk.Waits = append(out.Disk.Waits, api.Write{At: block, Data: b})
		own = append(own, block)
		return api.Ptr{At: block, Birth: birth, Sum: slowSum(b)}
	}
	var rows []api.Ptr
	for _, row := range cut(l) {
		rows = append(rows, lay(row))
	}
	if len(rows) > 0 {
		p = lay(rows)
	}
	return out, p, own
}

// apart tells in what a list is not want; nothing, if they are the same.
func apart(l, want []api.Ptr) string {
	for i := range min(len(l), len(want)) {
		if l[i] != want[i] {
			return fmt.Sprintf("at %d %v; want %v", i, l[i], want[i])
		}
	}
	if len(l) != len(want) {
		return fmt.Sprintf("%d pointers; want %d", len(l), len(want))
	}
	return ""
}

func wantCheck(t *testing.T, what string, l []api.Ptr, want api.Errno) {
	t.Helper()
	if e := dead.Check(l); e != want {
		t.Errorf("%s: Check = %d; want %d", what, e, want)
	}
}

// wantOne tries what a call answers that tells one list. Beside an error there is none.
func wantOne(t *testing.T, what string, want []api.Ptr, e api.Errno) func([]api.Ptr, api.Errno) {
	t.Helper()
	return func(l []api.Ptr, got api.Errno) {
		t.Helper()
		if d := apart(l, want); got != e || d != "" {
			t.Errorf("%s: %d; want %d; %s", what, got, e, d)
		}
	}
}

func wantSplit(t *testing.T, what string, l []api.Ptr, after uint32, old, young []api.Ptr, e api.Errno) {
	t.Helper()
	a, b, got := dead.Split(l, after)
	if d, f := apart(a, old), apart(b, young); got != e || d != "" || f != "" {
		t.Errorf("%s: Split(.., %d): %d; want %d; old: %s; young: %s", what, after, got, e, d, f)
	}
}

// wantJoin asks both ways round.
func wantJoin(t *testing.T, what string, a, b, want []api.Ptr, e api.Errno) {
	t.Helper()
	wantOne(t, what, want, e)(dead.Join(a, b))
	wantOne(t, what+", the other way round", want, e)(dead.Join(b, a))
}

// wantLay tells the store that was answered.
func wantLay(t *testing.T, what string, s api.Store, birth uint32, l []api.Ptr) (api.Store, api.Ptr) {
	t.Helper()
	want, ptr, blocks := slowLay(s, birth, l)
	out, p, own, e := dead.Lay(s, birth, l)
	if e != api.OK || p != ptr || !slices.Equal(own, blocks) {
		t.Errorf("%s: Lay: %v, %v, %d; want %v, %v", what, p, own, e, ptr, blocks)
	}
	if d := differ(out, want); d != "" {
		t.Errorf("%s: Lay: %s", what, d)
	}
	return out, p
}

func wantNoLay(t *testing.T, what string, s api.Store, birth uint32, l []api.Ptr, want api.Errno) {
	t.Helper()
	out, p, own, e := dead.Lay(s, birth, l)
	if e != want || p != none || len(own) > 0 || !isZero(out) {
		t.Errorf("%s: Lay(.., %d, ..): %v, %v, %d, a store: %t; want %d", what, birth, p, own, e, !isZero(out), want)
	}
}

func wantLoad(t *testing.T, what string, s api.Store, p api.Ptr, want []api.Ptr, blocks []int) {
	t.Helper()
	l, own, e := dead.Load(s, p)
	if d := apart(l, want); e != api.OK || d != "" || !slices.Equal(own, blocks) {
		t.Errorf("%s: Load: %d, %v; want %v; %s", what, e, own, blocks, d)
	}
}

func wantNoLoad(t *testing.T, what string, s api.Store, p api.Ptr, want api.Errno) {
	t.Helper()
	if l, own, e := dead.Load(s, p); e != want || len(l)+len(own) > 0 {
		t.Errorf("%s: Load(.., %v): %d, %d pointers, %v; want %d", what, p, e, len(l), own, want)
	}
}

// shelf is rows that were put by hand, in blocks that do not rise, and the own one.
type shelf struct {
	s    api.Store
	rows []api.Ptr
	p    api.Ptr
}

// placeOf tells where row i of a shelf stands; its own one stands where the 200th would.
func placeOf(i int) int { return 12 + (i*101+57)%244 }

// put sets the block at block, and tells the pointer to it.
func (x *shelf) put(block int, b []byte) api.Ptr {
	copy(x.s.Disk.Blocks[block], b)
	return api.Ptr{At: block, Birth: uint32(block), Sum: slowSum(b)}
}

// shelve puts these blocks as rows, and the own one.
func shelve(blocks ...[]byte) shelf {
	x := shelf{s: bare()}
	x.s.Disk.Waits = nil
	for i, b := range blocks {
		x.rows = append(x.rows, x.put(placeOf(i), b))
	}
	x.lead(x.rows)
	return x
}

// shelved puts a list as it is laid.
func shelved(l []api.Ptr) shelf {
	var blocks [][]byte
	for _, row := range cut(l) {
		blocks = append(blocks, slowRow(row))
	}
	return shelve(blocks...)
}

// lead makes another own row.
func (x *shelf) lead(rows []api.Ptr) {
	x.p = x.put(placeOf(200), slowRow(rows))
}

// again puts another block as row i, and the own row once more.
func (x *shelf) again(i int, b []byte) {
	x.rows[i] = x.put(placeOf(i), b)
	x.lead(x.rows)
}

// turn turns a byte of row i.
func (x *shelf) turn(i, byt int, by byte) {
	x.s.Disk.Blocks[placeOf(i)][byt] ^= by
}

// own are the blocks of all rows, the own one last.
func (x *shelf) own() []int {
	var l []int
	for _, p := range x.rows {
		l = append(l, p.At)
	}
	return append(l, x.p.At)
}

func TestP161Check(t *testing.T) {
	for what, l := range lists() {
		wantCheck(t, what, l, api.OK)
	}
	for what, l := range wrongLists() {
		wantCheck(t, what, l, api.ErrBad)
	}
	for many := range 245 {
		want := api.OK
		if many > mostDead {
			want = api.ErrBad
		}
		wantCheck(t, fmt.Sprint(many), every(many, 12, 1), want)
	}
}

// All pairs of blocks: just those that rise may be.
func TestP161Rises(t *testing.T) {
	for first := 10; first < 258; first++ {
		for second := 10; second < 258; second++ {
			want := api.ErrBad
			if first >= 12 && first < second && second <= 255 {
				want = api.OK
			}
			wantCheck(t, fmt.Sprint(first, second), those(1, first, second), want)
		}
	}
}

// Each block into each list that may be: as it stands in a table of all blocks.
func TestP161Add(t *testing.T) {
	for what, l := range lists() {
		for block := firstBlock; block <= lastBlock; block++ {
			p, e := at(block, 1000), api.OK
			want := slices.Clone(l)
			place := 0
			for place < len(l) && l[place].At < block {
				place++
			}
			switch {
			case place < len(l) && l[place].At == block:
				want, e = nil, api.ErrArg
			case len(l) == mostDead:
				want, e = nil, api.ErrFull
			default:
				want = slices.Concat(want[:place], []api.Ptr{p}, want[place:])
			}
			wantOne(t, fmt.Sprint(what, ", and ", block), want, e)(dead.Add(l, p))
		}
	}
}

func TestP161AddWrong(t *testing.T) {
	for what, l := range lists() {
		for _, p := range wrongPtrs() {
			wantOne(t, fmt.Sprint(what, ", and ", p), nil, api.ErrBad)(dead.Add(l, p))
		}
	}
	for what, l := range wrongLists() {
		for _, p := range []api.Ptr{at(12, 1), at(20, 1), at(100, 1), at(255, 9), none, {At: 11, Birth: 1}} {
			wantOne(t, fmt.Sprint(what, ", and ", p), nil, api.ErrBad)(dead.Add(l, p))
		}
	}
}

// A block that is there is refused by whichever pointer, the very same one too.
func TestP161AddThere(t *testing.T) {
	l := every(240, 14, 1)
	for _, many := range []int{1, 16, 17, 239, 240} {
		for _, p := range []api.Ptr{l[0], l[many-1], l[many/2], {At: l[many/2].At, Birth: mostBirth}, at(l[0].At, 9)} {
			wantOne(t, fmt.Sprint(many, p), nil, api.ErrArg)(dead.Add(l[:many], p))
		}
	}
	wantOne(t, "full, ahead of all", nil, api.ErrFull)(dead.Add(l, at(12, 1)))
	wantOne(t, "full, behind all", nil, api.ErrFull)(dead.Add(l, at(255, 1)))
	wantOne(t, "the 240th", slices.Concat(those(0, 12), l[:239]), api.OK)(dead.Add(l[:239], at(12, 0)))
}

// slowSplit parts a list by births, as the chapter has it.
func slowSplit(l []api.Ptr, after uint32) (old, young []api.Ptr) {
	isYoung := func(p api.Ptr) bool { return p.Birth > after }
	return slices.DeleteFunc(slices.Clone(l), isYoung), slices.DeleteFunc(slices.Clone(l), func(p api.Ptr) bool { return !isYoung(p) })
}

// afters are numbers of syncs, about the edges, and greater ones.
func afters() []uint32 {
	l := []uint32{mostBirth - 1, mostBirth, mostBirth + 1, 1 << 25, 1 << 31, mostNumber - 1, mostNumber, 255, 256, 257, 65535, 65536, 1 << 23}
	for n := range uint32(24) {
		l = append(l, n)
	}
	return l
}

func TestP162Split(t *testing.T) {
	for what, l := range lists() {
		for _, after := range afters() {
			old, young := slowSplit(l, after)
			wantSplit(t, what, l, after, old, young, api.OK)
		}
	}
	for what, l := range wrongLists() {
		for _, after := range afters() {
			wantSplit(t, what, l, after, nil, nil, api.ErrBad)
		}
	}
}

// Births that do not rise, at all edges of numbers.
func TestP162SplitBirths(t *testing.T) {
	l := []api.Ptr{{At: 20, Birth: mostBirth}, {At: 21, Birth: 1}, {At: 22, Birth: 65536}, {At: 23, Birth: 256}, {At: 24, Birth: 255}, {At: 25, Birth: mostBirth - 1}, {At: 26, Birth: 1}}
	wantSplit(t, "after 0", l, 0, nil, l, api.OK)
	wantSplit(t, "after 1", l, 1, []api.Ptr{l[1], l[6]}, slices.Concat(l[:1], l[2:6]), api.OK)
	wantSplit(t, "after 254", l, 254, []api.Ptr{l[1], l[6]}, slices.Concat(l[:1], l[2:6]), api.OK)
	wantSplit(t, "after 255", l, 255, []api.Ptr{l[1], l[4], l[6]}, []api.Ptr{l[0], l[2], l[3], l[5]}, api.OK)
	wantSplit(t, "after 256", l, 256, []api.Ptr{l[1], l[3], l[4], l[6]}, []api.Ptr{l[0], l[2], l[5]}, api.OK)
	wantSplit(t, "after all but one", l, mostBirth-1, l[1:], l[:1], api.OK)
	wantSplit(t, "after all", l, mostBirth, l, nil, api.OK)
	wantSplit(t, "after more", l, mostNumber, l, nil, api.OK)
}

// slowJoin makes of two lists that may be one by a table of all blocks.
func slowJoin(a, b []api.Ptr) ([]api.Ptr, api.Errno) {
	var table [256]api.Ptr
	for _, p := range slices.Concat(a, b) {
		if table[p.At] != none {
			return nil, api.ErrArg
		}
		table[p.At] = p
	}
	if len(a)+len(b) > mostDead {
		return nil, api.ErrFull
	}
	return slices.DeleteFunc(slices.Clone(table[:]), func(p api.Ptr) bool { return p == none }), api.OK
}

func TestP162Join(t *testing.T) {
	seen := map[api.Errno]int{}
	for what, a := range lists() {
		for other, b := range lists() {
			want, e := slowJoin(a, b)
			wantJoin(t, what+" and "+other, a, b, want, e)
			seen[e]++
		}
	}
	wantJoin(t, "one in between", those(1, 20, 40), those(1, 30), those(1, 20, 30, 40), api.OK)
	for _, e := range []api.Errno{api.OK, api.ErrArg, api.ErrFull} {
		if seen[e] < 4 {
			t.Errorf("%d pairs answer %d", seen[e], e)
		}
	}
}

func TestP162JoinWrong(t *testing.T) {
	for what, l := range wrongLists() {
		wantJoin(t, what+", and none", l, nil, nil, api.ErrBad)
		wantJoin(t, what+", and one", l, those(1, 250), nil, api.ErrBad)
		wantJoin(t, what+", and many", l, every(240, 12, 1), nil, api.ErrBad)
		wantJoin(t, what+", twice", l, l, nil, api.ErrBad)
	}
}

// How many pointers two lists have that have no block in common, about the most.
func TestP162JoinMany(t *testing.T) {
	l := every(244, 12, 1)
	for first := 4; first <= 240; first++ {
		wantJoin(t, fmt.Sprint(first, " of 240"), l[:first], l[first:240], l[:240], api.OK)
		wantJoin(t, fmt.Sprint(first, " of 241"), l[:first], l[first:241], nil, api.ErrFull)
		wantJoin(t, fmt.Sprint(first, " of 244"), l[:first], l[first:], nil, api.ErrFull)
	}
}

// That both have one block is told ahead of that they have too many.
func TestP162JoinBoth(t *testing.T) {
	l := every(244, 12, 1)
	for first := 4; first < 240; first++ {
		wantJoin(t, fmt.Sprint("the last of ", first), l[:first+1], l[first:], nil, api.ErrArg)
	}
	wantJoin(t, "full, twice", l[:240], l[:240], nil, api.ErrArg)
	wantJoin(t, "full, and its first", l[:240], l[:1], nil, api.ErrArg)
	wantJoin(t, "full, and its last", l[:240], l[239:240], nil, api.ErrArg)
	wantJoin(t, "another pointer to it", those(1, 20, 30), those(2, 30, 40), nil, api.ErrArg)
}

// As many rows as each number of pointers needs, laid where the lowest free blocks are.
func TestP163Lay(t *testing.T) {
	for many := range mostDead + 1 {
		out, p := wantLay(t, fmt.Sprint("New, ", many), store.New(), 1, every(many, 12, 1))
		if rows := (many + 15) / 16; many > 0 && (p.At != 12+rows || len(out.Disk.Waits) != rows+1) {
			t.Errorf("%d: the own row at %d, %d writes", many, p.At, len(out.Disk.Waits))
		}
	}
	for what, l := range lists() {
		for _, birth := range []uint32{1, 2, 255, 256, 65536, mostBirth - 1, mostBirth} {
			wantLay(t, what, bare(13, 20, 21, 40, 77, 100, 101, 102, 103, 120, 130, 140, 150, 160, 170, 254, 255), birth, l)
		}
	}
}

// What stands in the lowest blocks is laid byte by byte.
func TestP163LayByHand(t *testing.T) {
	l := append(every(16, 100, 1), api.Ptr{At: 255, Birth: 0x030201, Iv: 0x07060504, Tag: 0x0b0a0908, Sum: 0x0f0e0d0c})
	out, p, own, e := dead.Lay(bare(40, 60, 80), 0x0a0b0c, l)
	if e != api.OK || !slices.Equal(own, []int{40, 60, 80}) || p.At != 80 || p.Birth != 0x0a0b0c || p.Iv != 0 || p.Tag != 0 {
		t.Fatal(p, own, e)
	}
	last := append([]byte{255, 1, 2, 3, 4, 5, 6, 7, 8, 9, 10, 11, 12, 13, 14, 15}, make([]byte, 240)...)
	lead := append([]byte{40, 12, 11, 10, 0, 0, 0, 0, 0, 0, 0, 0}, make([]byte, 244)...)
	copy(lead[16:], []byte{60, 12, 11, 10})
	for i, b := range [][]byte{slowRow(l[:16]), last} {
		for byt := range 4 {
			lead[i*16+12+byt] = byte(slowSum(b) >> (8 * byt))
		}
	}
	waits := out.Disk.Waits
	if len(waits) != 6 || !bytes.Equal(waits[3].Data, slowRow(l[:16])) || !bytes.Equal(waits[4].Data, last) || !bytes.Equal(waits[5].Data, lead) {
		t.Errorf("%v", waits[3:])
	}
	if p.Sum != slowSum(lead) {
		t.Errorf("the sum %d", p.Sum)
	}
}

// Sums as they were reckoned apart from this program.
func TestP163Sums(t *testing.T) {
	if got := slowSum(make([]byte, 256)); got != 0x641d1b06 {
		t.Errorf("noughts: %08x", got)
	}
	if got := slowSum(bytes.Repeat([]byte{255}, 256)); got != 0x5efb768f {
		t.Errorf("bytes 255: %08x", got)
	}
}

func TestP163LayWrong(t *testing.T) {
	births := []uint32{1, 0, 1 << 24, mostNumber}
	for what, s := range wrongStores() {
		for _, birth := range births {
			wantNoLay(t, what, s, birth, every(3, 20, 1), api.ErrBad)
			wantNoLay(t, what, s, birth, nil, api.ErrBad)
			wantNoLay(t, what, s, birth, those(1, 20, 20), api.ErrBad)
		}
	}
	for what, l := range wrongLists() {
		for _, birth := range births {
			wantNoLay(t, what, store.New(), birth, l, api.ErrBad)
			wantNoLay(t, what+", no room", bare(), birth, l, api.ErrBad)
		}
	}
	for what, l := range lists() {
		for _, birth := range []uint32{0, 1 << 24, 1<<24 + 1, 1 << 25, 1 << 31, mostNumber - 1, mostNumber} {
			wantNoLay(t, what, store.New(), birth, l, api.ErrArg)
			wantNoLay(t, what+", no room", bare(), birth, l, api.ErrArg)
		}
	}
}

// free are that many blocks.
func free(many int) []int {
	var l []int
	for i := range many {
		l = append(l, 14+i*9)
	}
	return l
}

// There has to be room for all rows, and the own one.
func TestP163LayFull(t *testing.T) {
	for _, many := range []int{1, 15, 16, 17, 32, 33, 100, 225, 239, 240} {
		l, need := every(many, 12, 1), (many+15)/16+1
		for room := range need {
			wantNoLay(t, fmt.Sprint(many, ", free: ", room), bare(free(room)...), 1, l, api.ErrFull)
		}
		wantLay(t, fmt.Sprint(many, ", just enough"), bare(free(need)...), 1, l)
	}
	wantLay(t, "nothing, and no room", bare(), 1, nil)
}

// Nor may more writes wait than may.
func TestP163LayWaits(t *testing.T) {
	for _, many := range []int{1, 16, 17, 240} {
		l, need := every(many, 12, 1), (many+15)/16+1
		s := store.New()
		for _, room := range []int{0, 1, need - 1} {
			s.Disk.Waits = slices.Repeat([]api.Write{{At: 30, Data: text(1)}}, mostWaits-room)
			wantNoLay(t, fmt.Sprint(many, ", room for ", room), s, 1, l, api.ErrFull)
			wantLay(t, "nothing", s, 1, nil)
		}
		s.Disk.Waits = slices.Repeat([]api.Write{{At: 30, Data: text(1)}}, mostWaits-need)
		wantLay(t, fmt.Sprint(many, ", just enough"), s, 1, l)
	}
}

// A list of rows put by hand is loaded, wherever they stand, and whatever births they have.
func TestP163Load(t *testing.T) {
	for what, l := range lists() {
		if len(l) == 0 {
			continue
		}
		x := shelved(l)
		wantLoad(t, what, x.s, x.p, l, x.own())
	}
	for many := 1; many <= mostDead; many++ {
		x := shelved(every(many, 12, 1))
		wantLoad(t, fmt.Sprint(many), x.s, x.p, every(many, 12, 1), x.own())
	}
}

// Numbers and tags that pointers to plain blocks have count for nothing, nor do their births.
func TestP163LoadMarked(t *testing.T) {
	l := every(50, 60, 2)
	x := shelved(l)
	for i := range x.rows {
		x.rows[i].Birth, x.rows[i].Iv, x.rows[i].Tag = mostBirth-uint32(i), uint32(i)*77, mostNumber
	}
	x.lead(x.rows)
	x.p.Birth, x.p.Iv, x.p.Tag = 1, mostNumber, 5
	wantLoad(t, "marked", x.s, x.p, l, x.own())
}

// Nor does what its pointers lead to: a list may have its own blocks, too.
func TestP163LoadUnread(t *testing.T) {
	l := every(240, 16, 1)
	x := shelved(l)
	for block := range 256 {
		if !slices.Contains(x.own(), block) {
			clear(x.s.Disk.Blocks[block])
		}
	}
	wantLoad(t, "all other blocks cleared", x.s, x.p, l, x.own())
}

func TestP163LoadNone(t *testing.T) {
	for what, s := range map[string]api.Store{"New": store.New(), "bare": bare(), "free": bare(12, 13)} {
		wantLoad(t, what, s, none, nil, nil)
	}
}

func TestP163LoadWrong(t *testing.T) {
	x := shelved(every(40, 20, 3))
	for what, s := range wrongStores() {
		wantNoLoad(t, what, s, x.p, api.ErrBad)
		for _, p := range wrongPtrs() { // none is among them
			wantNoLoad(t, what, s, p, api.ErrBad)
		}
	}
	for _, p := range wrongPtrs() {
		if p != none {
			wantNoLoad(t, "a wrong one", x.s, p, api.ErrBad)
			wantNoLoad(t, "a wrong one, New", store.New(), p, api.ErrBad)
		}
	}
}

// Each byte of each row, the own one's too.
func TestP163LoadTurned(t *testing.T) {
	l := every(40, 20, 3)
	for _, i := range []int{0, 1, 2, 200} {
		for byt := range 256 {
			for _, by := range []byte{1, 128, byte(byt) | 2} {
				x := shelved(l)
				x.turn(i, byt, by)
				wantNoLoad(t, fmt.Sprint("row ", i, ", byte ", byt, " by ", by), x.s, x.p, api.ErrSum)
				x.turn(i, byt, by)
				wantLoad(t, "turned back", x.s, x.p, l, x.own())
			}
		}
	}
	for bit := range 32 {
		x := shelved(l)
		x.p.Sum ^= 1 << bit
		wantNoLoad(t, fmt.Sprint("another sum of the own row, by bit ", bit), x.s, x.p, api.ErrSum)
		x = shelved(l)
		x.rows[bit%3].Sum ^= 1 << bit
		x.lead(x.rows)
		wantNoLoad(t, fmt.Sprint("another sum of a row, by bit ", bit), x.s, x.p, api.ErrSum)
	}
}

// What waits to be written over a row is what is read.
func TestP163LoadWaits(t *testing.T) {
	l := every(40, 20, 3)
	for _, i := range []int{0, 1, 2, 200} {
		x := shelved(l)
		was := bytes.Clone(x.s.Disk.Blocks[placeOf(i)])
		x.s.Disk.Waits = append(x.s.Disk.Waits, api.Write{At: placeOf(i), Data: text(1)})
		wantNoLoad(t, fmt.Sprint("row ", i, " waits"), x.s, x.p, api.ErrSum)
		x.s.Disk.Waits = append(x.s.Disk.Waits, api.Write{At: placeOf(i), Data: was})
		wantLoad(t, "written once more", x.s, x.p, l, x.own())
	}
}

// noRows are blocks of which none is a row as it is laid.
func noRows() map[string][]byte {
	all := map[string][]byte{
		"a text":  text(3),
		"11":      bytes.Repeat([]byte{11}, 256),
		"noughts": make([]byte, 256),
	}
	row := every(16, 200, 3)
	for i := range inRow {
		for n, p := range []api.Ptr{{At: 11, Birth: 1}, {At: 12}, {Birth: 1}, {Sum: 1 << 31}} {
			all[fmt.Sprint("a wrong one, ", n, " at ", i)] = slowRow(with(row, i, p))
		}
		if i < inRow-1 {
			all[fmt.Sprint("a hole at ", i)] = slowRow(with(row, i, none))
			all[fmt.Sprint("a hole ahead of the last at ", i)] = slowRow(with(row[:i+2], i, none))
		}
	}
	alone := make([]api.Ptr, inRow)
	alone[15] = row[15]
	all["the last one alone"] = slowRow(alone)
	for byt := range 256 {
		b := make([]byte, 256)
		b[byt] = 1
		all[fmt.Sprint("byte ", byt, " alone")] = b
	}
	return all
}

// Whether it is a row is asked of each one, behind its sum.
func TestP163LoadNoRow(t *testing.T) {
	for what, block := range noRows() {
		for i := range 4 {
			x := shelved(every(64, 12, 1))
			x.again(i, block)
			wantNoLoad(t, fmt.Sprint(what, ", row ", i), x.s, x.p, api.ErrBad)
			x.turn(i, 100, 1)
			wantNoLoad(t, fmt.Sprint(what, ", row ", i, ", turned"), x.s, x.p, api.ErrSum)
		}
		x := shelved(every(64, 12, 1))
		x.p = x.put(placeOf(200), block)
		wantNoLoad(t, what+", the own one", x.s, x.p, api.ErrBad)
		x.turn(200, 99, 1)
		wantNoLoad(t, what+", the own one, turned", x.s, x.p, api.ErrSum)
	}
}

// The own row's pointers, too, stand one behind the other, all 15 that there may be.
func TestP163LoadLead(t *testing.T) {
	x := shelved(every(240, 12, 1))
	for i := range 14 {
		x.lead(with(x.rows, i, none))
		wantNoLoad(t, fmt.Sprint("a hole at ", i), x.s, x.p, api.ErrBad)
	}
	x.lead(with(x.rows, 14, none))
	x.rows = x.rows[:14]
	wantLoad(t, "without the last one", x.s, x.p, every(240, 12, 1)[:224], x.own())
	x.lead(nil)
	wantNoLoad(t, "without any", x.s, x.p, api.ErrBad)
	x.lead(append([]api.Ptr{none}, x.rows...))
	wantNoLoad(t, "behind a hole", x.s, x.p, api.ErrBad)
}

// A row that is not the last one has 16 pointers.
func TestP163LoadShort(t *testing.T) {
	l := every(240, 12, 1)
	for i := range 15 {
		for many := 1; many < inRow; many++ {
			x := shelved(l)
			row := cut(l)[i][:many]
			x.again(i, slowRow(row))
			what := fmt.Sprint("row ", i, " has ", many)
			if i < 14 {
				wantNoLoad(t, what, x.s, x.p, api.ErrBad)
			} else {
				wantLoad(t, what, x.s, x.p, l[:224+many], x.own())
			}
		}
	}
	x := shelve(slowRow(l[:1]), slowRow(l[1:17]))
	wantNoLoad(t, "1 and 16", x.s, x.p, api.ErrBad)
	x = shelve(slowRow(l[:1]), slowRow(l[1:2]))
	wantNoLoad(t, "1 and 1", x.s, x.p, api.ErrBad)
}

// All pointers, in order, are a list that may be, also where a row ends.
func TestP163LoadNoList(t *testing.T) {
	l := every(64, 12, 2)
	for i := range l[1:] {
		x := shelved(with(l, i+1, l[i]))
		wantNoLoad(t, fmt.Sprint("one block twice at ", i), x.s, x.p, api.ErrBad)
		other := slices.Clone(l)
		other[i], other[i+1] = other[i+1], other[i]
		x = shelved(other)
		wantNoLoad(t, fmt.Sprint("they fall at ", i), x.s, x.p, api.ErrBad)
	}
	x := shelved(l)
	for _, order := range [][]int{{1, 0, 2, 3}, {0, 1, 3, 2}, {3, 2, 1, 0}, {0, 0, 2, 3}, {0, 1, 2, 2}, {0, 0}} {
		var rows []api.Ptr
		for _, i := range order {
			rows = append(rows, x.rows[i])
		}
		x.lead(rows)
		wantNoLoad(t, fmt.Sprint("rows ", order), x.s, x.p, api.ErrBad)
	}
	for _, order := range [][]int{{0, 2, 3}, {1}, {3}, {0, 3}, {1, 2}} {
		y := shelf{s: x.s}
		var want []api.Ptr
		for _, i := range order {
			y.rows = append(y.rows, x.rows[i])
			want = append(want, cut(l)[i]...)
		}
		y.lead(y.rows)
		wantLoad(t, fmt.Sprint("rows ", order), y.s, y.p, want, y.own())
	}
}

// More pointers than a list may have, though each row is one.
func TestP163LoadTooMany(t *testing.T) {
	for many := 241; many <= 244; many++ {
		x := shelved(every(many, 12, 1))
		wantNoLoad(t, fmt.Sprint(many), x.s, x.p, api.ErrBad)
		x.turn(15, 7, 1)
		wantNoLoad(t, fmt.Sprint(many, ", the last row turned"), x.s, x.p, api.ErrSum)
	}
	x := shelved(every(256, 0, 1))
	wantNoLoad(t, "fixed ones, too", x.s, x.p, api.ErrBad)
}

// Of two errors that one is told whose row stands first; that they are no list is told behind all.
func TestP163LoadFirst(t *testing.T) {
	l := every(240, 12, 1)
	for turned := range 15 {
		for bad := range 15 {
			if turned == bad {
				continue
			}
			first := api.ErrSum
			if bad < turned {
				first = api.ErrBad
			}
			for what, block := range map[string][]byte{"a text": text(1), "noughts": make([]byte, 256), "a short row": slowRow(cut(l)[bad][:15])} {
				if what == "a short row" && bad == 14 {
					continue
				}
				x := shelved(l)
				x.again(bad, block)
				x.turn(turned, 200, 4)
				wantNoLoad(t, fmt.Sprint(turned, " turned, ", bad, " is ", what), x.s, x.p, first)
			}
		}
		x := shelved(with(l, 1, l[0]))
		x.turn(turned, 201, 2)
		wantNoLoad(t, fmt.Sprint(turned, " turned, no list"), x.s, x.p, api.ErrSum)
	}
	x := shelved(l)
	x.lead(with(x.rows, 13, none))
	x.turn(0, 0, 1)
	wantNoLoad(t, "the own one is no row", x.s, x.p, api.ErrBad)
	x.turn(200, 0, 1)
	wantNoLoad(t, "the own one is turned", x.s, x.p, api.ErrSum)
	x = shelved(l)
	x.lead(append(x.rows[:3:3], api.Ptr{At: 200, Birth: 1, Sum: 1}))
	wantNoLoad(t, "one that leads to none", x.s, x.p, api.ErrSum)
}

// All calls only read, the room to spare too.
func TestP164OnlyReads(t *testing.T) {
	stores := wrongStores()
	stores["bare"], stores["free"], stores["New"] = bare(), bare(free(20)...), store.New()
	many := wrongLists()
	for what, l := range lists() {
		many[what] = l
	}
	for what, l := range many {
		l, b := slices.Concat(l, those(3, 99, 98))[:len(l)], every(20, 30, 4)
		was, wasB := slices.Clone(room(l)), slices.Clone(room(b))
		dead.Check(l)
		dead.Split(l, 5)
		for block := 11; block < 256; block++ {
			dead.Add(l, at(block, 1))
		}
		dead.Join(l, b)
		dead.Join(b, l)
		dead.Join(l, l)
		dead.Lay(store.New(), 1, l)
		dead.Lay(bare(20), 1, l)
		if !slices.Equal(room(l), was) || !slices.Equal(room(b), wasB) {
			t.Errorf("%s: a list is turned", what)
		}
	}
	for what, s := range stores {
		was := whole(s)
		for _, l := range [][]api.Ptr{nil, every(1, 12, 1), every(40, 12, 1), every(240, 12, 1), those(1, 3)} {
			dead.Lay(s, 1, l)
			dead.Lay(s, 0, l)
		}
		dead.Load(s, api.Ptr{At: 20, Birth: 1})
		dead.Load(s, none)
		if whole(s) != was {
			t.Errorf("%s: a store is turned", what)
		}
	}
}

func TestP164LoadOnlyReads(t *testing.T) {
	good, turned, bad := shelved(every(240, 12, 1)), shelved(every(240, 12, 1)), shelved(every(240, 12, 1))
	turned.turn(9, 9, 9)
	bad.again(14, text(1))
	for _, x := range []shelf{good, turned, bad} {
		was := whole(x.s)
		dead.Load(x.s, x.p)
		if whole(x.s) != was {
			t.Error("a store is turned")
		}
	}
}

// What is answered stays what it is when what was handed in, or another answer, is turned, and the other way round.
func TestP164ListsAreNew(t *testing.T) {
	for what, l := range lists() {
		was := slices.Clone(l)
		b := those(5, 12, 13, 255)
		for name, call := range map[string]func() [][]api.Ptr{
			"Add":        func() [][]api.Ptr { x, _ := dead.Add(l, at(251, 1)); return [][]api.Ptr{x} },
			"Split":      func() [][]api.Ptr { x, y, _ := dead.Split(l, 4); return [][]api.Ptr{x, y} },
			"Split, old": func() [][]api.Ptr { x, y, _ := dead.Split(l, mostNumber); return [][]api.Ptr{x, y} },
			"Split, all": func() [][]api.Ptr { x, y, _ := dead.Split(l, 0); return [][]api.Ptr{x, y} },
			"Join":       func() [][]api.Ptr { x, _ := dead.Join(l, b); return [][]api.Ptr{x} },
			"Join, none": func() [][]api.Ptr { x, _ := dead.Join(l, nil); return [][]api.Ptr{x} },
			"None, Join": func() [][]api.Ptr { x, _ := dead.Join(nil, l); return [][]api.Ptr{x} },
		} {
			copies := func(of [][]api.Ptr) (to [][]api.Ptr) {
				for _, l := range of {
					to = append(to, slices.Clone(l))
				}
				return to
			}
			one, other := call(), call()
			want := copies(one)
			for _, x := range other {
				clear(room(x))
			}
			if !slices.Equal(l, was) || !slices.Equal(b, those(5, 12, 13, 255)) {
				t.Fatalf("%s, %s: an answer shares memory with what is handed in", what, name)
			}
			stamp(l)
			if !slices.EqualFunc(one, want, slices.Equal) {
				t.Errorf("%s, %s: an answer shares memory", what, name)
			}
			copy(l, was)
			for i, x := range one {
				clear(room(x))
				for j, y := range one {
					if j > i && !slices.Equal(y, want[j]) {
						t.Errorf("%s, %s: two lists of an answer share memory", what, name)
					}
				}
			}
		}
	}
}

// stamp turns all that a list has, the room to spare behind it, too.
func stamp(l []api.Ptr) {
	for i := range room(l) {
		room(l)[i] = at(200, 3)
	}
}

// Likewise the store that is answered: also where nothing was laid.
func TestP164StoresAreNew(t *testing.T) {
	for what, l := range lists() {
		s := bare(free(20)...)
		was := whole(s)
		want, p, own := slowLay(s, 3, l)
		one, ptr, blocks, _ := dead.Lay(s, 3, l)
		other, _, more, _ := dead.Lay(s, 3, l)
		spoil(other)
		clear(room(more))
		if whole(s) != was {
			t.Errorf("%s: what Lay answers shares memory with what it is handed", what)
		}
		spoil(s)
		stamp(l)
		if d := differ(one, want); d != "" || ptr != p || !slices.Equal(blocks, own) {
			t.Errorf("%s: what Lay answers shares memory: %s", what, d)
		}
		wantApart(t, what, one)
	}
}

// wantApart asks that no two lists of bytes of a store share memory: each is filled with a number of its own, and has it after all were filled.
func wantApart(t *testing.T, what string, s api.Store) {
	t.Helper()
	all := append(slices.Clone(s.Disk.Blocks), s.Space)
	for _, w := range s.Disk.Waits {
		all = append(all, w.Data)
	}
	for n, b := range all {
		for i := range room(b) {
			room(b)[i] = byte(n >> (i % 2 * 8))
		}
	}
	for n, b := range all {
		for i := range room(b) {
			if room(b)[i] != byte(n>>(i%2*8)) {
				t.Errorf("%s: list %d shares memory", what, n)
				break
			}
		}
	}
}

func TestP164LoadIsNew(t *testing.T) {
	for _, many := range []int{1, 15, 16, 17, 100, 240} {
		want := every(many, 12, 1)
		x := shelved(want)
		was := whole(x.s)
		l, own, _ := dead.Load(x.s, x.p)
		other, more, _ := dead.Load(x.s, x.p)
		clear(room(other))
		clear(room(more))
		if whole(x.s) != was {
			t.Errorf("%d: what Load answers shares memory with the store", many)
		}
		spoil(x.s)
		if !slices.Equal(l, want) || !slices.Equal(own, x.own()) {
			t.Errorf("%d: what Load answers shares memory", many)
		}
	}
}

// What was laid is loaded, with the blocks that were taken; also once it lasts, and beside others.
func TestP165LaidIsLoaded(t *testing.T) {
	for what, l := range lists() {
		for _, s := range []api.Store{store.New(), bare(free(20)...)} {
			s, p, own, e := dead.Lay(s, 7, l)
			if e != api.OK {
				t.Fatal(what, e)
			}
			wantLoad(t, what, s, p, l, own)
			for _, w := range s.Disk.Waits {
				s.Disk.Blocks[w.At] = w.Data
			}
			s.Disk.Waits = nil
			wantLoad(t, what+", flushed", s, p, l, own)
		}
	}
}

// Lists that are laid one behind the other, into one store, take no block twice, and all are loaded.
func TestP165Beside(t *testing.T) {
	type laid struct {
		l   []api.Ptr
		p   api.Ptr
		own []int
	}
	for seed := range 10 {
		c, s, taken := chances(seed), store.New(), map[int]bool{}
		var all []laid
		for i := range 14 {
			x := laid{l: some(c, c.of(241))}
			var e api.Errno
			if s, x.p, x.own, e = dead.Lay(s, uint32(i+1), x.l); e != api.OK {
				t.Fatal(seed, i, e)
			}
			for _, block := range x.own {
				if taken[block] || s.Space[block] != used {
					t.Errorf("seed %d: block %d is taken twice", seed, block)
				}
				taken[block] = true
			}
			all = append(all, x)
		}
		for i, x := range all {
			wantLoad(t, fmt.Sprint("seed ", seed, ", list ", i), s, x.p, x.l, x.own)
		}
		for block := firstBlock; block <= lastBlock; block++ {
			if (s.Space[block] == used) != taken[block] {
				t.Errorf("seed %d: block %d", seed, block)
			}
		}
	}
}

// What was split is joined as it was.
func TestP165SplitIsJoined(t *testing.T) {
	for seed := range 60 {
		c := chances(seed)
		l := some(c, c.of(241))
		for _, after := range afters() {
			old, young, e := dead.Split(l, after)
			if e != api.OK {
				t.Fatal(seed, e)
			}
			wantJoin(t, fmt.Sprint("seed ", seed, ", ", after), old, young, l, api.OK)
			wantCheck(t, "old", old, api.OK)
			wantCheck(t, "young", young, api.OK)
		}
	}
}

// What was added is there, once; nothing else changes: all blocks, one after the other, in an order by lot.
func TestP165AddedIsThere(t *testing.T) {
	for seed := range 12 {
		c := chances(seed)
		var l []api.Ptr
		var table [256]api.Ptr
		for len(l) < mostDead {
			p := at(firstBlock+c.of(244), c.of(100))
			e := api.OK
			if table[p.At] != none {
				e = api.ErrArg
			}
			more, got := dead.Add(l, p)
			if got != e {
				t.Fatal(seed, p, got, e)
			}
			if e == api.OK {
				l, table[p.At] = more, p
			}
			want := slices.DeleteFunc(slices.Clone(table[:]), func(p api.Ptr) bool { return p == none })
			if d := apart(l, want); d != "" || dead.Check(l) != api.OK {
				t.Fatalf("seed %d: %s", seed, d)
			}
		}
	}
}

// Joined parts of whatever kind are what they were together.
func TestP165Parts(t *testing.T) {
	for seed := range 100 {
		c := chances(seed)
		l := some(c, c.of(241))
		var parts [3][]api.Ptr
		for _, p := range l {
			n := c.of(3)
			parts[n] = append(parts[n], p)
		}
		ab, e := dead.Join(parts[0], parts[1])
		if e != api.OK {
			t.Fatal(seed, e)
		}
		wantJoin(t, fmt.Sprint("seed ", seed), ab, parts[2], l, api.OK)
	}
}

func TestExamples(t *testing.T) {
	l := []api.Ptr{{At: 20, Birth: 1}, {At: 30, Birth: 5}}
	if l, e := dead.Add(l, api.Ptr{At: 25, Birth: 1}); e != api.OK || len(l) != 3 || l[0].At != 20 || l[1].At != 25 || l[2].At != 30 {
		t.Errorf("Add(20, 30; 25): %v, %d", l, e)
	}
	wantOne(t, "Add(20; 20)", nil, api.ErrArg)(dead.Add(l[:1], l[0]))
	wantSplit(t, "20 born in 1, 30 born in 5", l, 1, l[:1], l[1:], api.OK)
	if _, p, own, e := dead.Lay(store.New(), 1, nil); e != api.OK || len(own) > 0 || p != none {
		t.Errorf("Lay(New, 1, none): %v, %v, %d", p, own, e)
	}
	if _, _, own, e := dead.Lay(store.New(), 1, every(17, 100, 1)); e != api.OK || !slices.Equal(own, []int{12, 13, 14}) {
		t.Errorf("Lay of 17 pointers: %v, %d", own, e)
	}
}

// answers are all that the calls answer to a list, a store and a pointer, as a text.
func answers(l []api.Ptr, s api.Store, p api.Ptr) string {
	var told strings.Builder
	fmt.Fprintln(&told, dead.Check(l))
	for _, p := range []api.Ptr{p, none, at(13, 2), at(200, 2), {At: 12}} {
		more, e := dead.Add(l, p)
		fmt.Fprintln(&told, more, e)
	}
	for _, after := range []uint32{0, 4, mostNumber} {
		old, young, e := dead.Split(l, after)
		fmt.Fprintln(&told, old, young, e)
	}
	for _, b := range [][]api.Ptr{nil, l, every(3, 250, 1), those(1, 9)} {
		both, e := dead.Join(l, b)
		fmt.Fprintln(&told, both, e)
	}
	for _, birth := range []uint32{0, 1, mostBirth, 1 << 24} {
		out, to, own, e := dead.Lay(s, birth, l)
		fmt.Fprintln(&told, whole(slowTwin(out)), to, own, e)
	}
	loaded, own, e := dead.Load(s, p)
	fmt.Fprintln(&told, loaded, own, e)
	return told.String()
}

func TestR1AllEnd(t *testing.T) {
	stores := wrongStores()
	stores["New"], stores["bare"] = store.New(), bare()
	stores["great"] = api.Store{Disk: api.Disk{Blocks: make([][]byte, 1<<16), Waits: make([]api.Write, 1<<16)}, Space: make([]byte, 1<<20)}
	for _, s := range stores {
		for _, l := range [][]api.Ptr{nil, every(17, 12, 1), every(240, 12, 1), those(1, 20, 20), make([]api.Ptr, 1<<16)} {
			for _, p := range append(wrongPtrs()[:9], api.Ptr{At: 12, Birth: 1}, api.Ptr{At: 255, Birth: mostBirth, Iv: 1, Tag: 1, Sum: 1}) {
				answers(l, s, p)
			}
		}
	}
	wantCheck(t, "a great many", every(1<<20, 12, 1), api.ErrBad)
}

// No pointer leads further than one row down: also where rows lead to rows.
func TestR1Back(t *testing.T) {
	x := shelved(every(16, 20, 1))
	y := x
	y.rows = slices.Repeat(x.rows, 15)
	y.lead(y.rows)
	wantNoLoad(t, "one row 15 times", y.s, y.p, api.ErrBad)
	x = shelved(every(3, 20, 1))
	lead := x.put(30, slowRow([]api.Ptr{x.p}))
	wantLoad(t, "a row of rows", x.s, lead, x.rows, []int{x.p.At, 30})
}

// The same arguments have the same answers, also side by side, and no goroutine is left behind.
func TestR2ArgumentsAlone(t *testing.T) {
	x, bad := shelved(every(100, 12, 2)), shelved(every(100, 12, 2))
	for i := range 60 {
		x.s.Space[20+i], bad.s.Space[20+i] = unused, unused
	}
	bad.turn(3, 3, 3)
	l := every(90, 14, 2)
	began, want, wantBad := runtime.NumGoroutine(), answers(l, x.s, x.p), answers(l[:3], bad.s, bad.p)
	if now := runtime.NumGoroutine(); now > began {
		t.Errorf("%d goroutines; there were %d", now, began)
	}
	if answers(slices.Clone(l), slowTwin(x.s), x.p) != want {
		t.Error("an answer hangs on the room to spare")
	}
	var wait sync.WaitGroup
	for range 8 {
		wait.Go(func() {
			for range 5 {
				if answers(l, x.s, x.p) != want || answers(l[:3], bad.s, bad.p) != wantBad {
					t.Error("a call has two answers")
				}
			}
		})
	}
	wait.Wait()
}
