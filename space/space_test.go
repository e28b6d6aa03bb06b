package space_test

import (
	"bytes"
	"fmt"
	"math"
	"runtime"
	"slices"
	"sync"
	"testing"

	"charterhouse/api"
	"charterhouse/space"
)

// The marks, as the chapter has them.
const (
	unused = 0
	used   = 1
	later  = 2
)

// table is made without package space: the fixed blocks are used, all others as of tells. Behind it there is some room to spare.
func table(of func(at int) byte) []byte {
	room := bytes.Repeat([]byte{unused}, 300)
	for at := range 256 {
		room[at] = used
		if at >= 12 {
			room[at] = of(at)
		}
	}
	return room[:256]
}

// all is a table whose blocks from 12 on have one mark.
func all(mark byte) []byte {
	return table(func(int) byte { return mark })
}

// but is a table whose blocks from 12 on have one mark, but for one block.
func but(mark byte, at int, other byte) []byte {
	s := all(mark)
	s[at] = other
	return s
}

// upTo is a table that has first up to the block at at, and rest from there on.
func upTo(at int, first, rest byte) []byte {
	return table(func(k int) byte {
		if k < at {
			return first
		}
		return rest
	})
}

// chance is a mixed table, another one for each state; by tells how often each mark comes, held against the others.
func chance(state uint32, by [3]uint32) []byte {
	return table(func(int) byte {
		state = state*1664525 + 1013904223
		n := state >> 8 % (by[0] + by[1] + by[2])
		switch {
		case n < by[0]:
			return unused
		case n < by[0]+by[1]:
			return used
		}
		return later
	})
}

// tables are those that may be: of one mark, with one block of another one, with each mark up to a block and another one from there on, and mixed ones.
func tables() [][]byte {
	many := [][]byte{space.New()}
	for mark := range byte(3) {
		many = append(many, all(mark))
		for other := range byte(3) {
			for at := 12; at < 256; at++ {
				many = append(many, but(mark, at, other), upTo(at, mark, other))
			}
			many = append(many, table(func(at int) byte { return []byte{mark, other}[at%2] }))
		}
	}
	for n := range uint32(60) {
		many = append(many, chance(n, [3]uint32{1, 1, 1}), chance(n, [3]uint32{1, 20, 1}), chance(n, [3]uint32{20, 1, 1}), chance(n, [3]uint32{1, 30, 30}))
	}
	return many
}

// wrongTables are those that may not be: by their length, and by one byte each.
func wrongTables() map[string][]byte {
	wrong := map[string][]byte{"nil": nil, "empty": {}, "all 0": make([]byte, 256), "all 2": bytes.Repeat([]byte{2}, 256), "all 255": bytes.Repeat([]byte{255}, 256), "a great one": bytes.Repeat([]byte{1}, 1<<20)}
	for long := range 600 {
		if long != 256 {
			wrong[fmt.Sprint("1s, as many as ", long)] = bytes.Repeat([]byte{1}, long)
			wrong[fmt.Sprint("as New, but long ", long)] = slices.Concat(all(unused), all(unused), all(unused))[:long]
		}
	}
	wrong["without the first one"] = all(used)[1:]
	wrong["with room for one more"] = all(unused)[:257]
	for at := range 256 {
		for mark := range 256 {
			if mark > 2 || at < 12 && mark != 1 {
				wrong[fmt.Sprintf("%d at %d of a free one", mark, at)] = but(unused, at, byte(mark))
				wrong[fmt.Sprintf("%d at %d of a full one", mark, at)] = but(used, at, byte(mark))
			}
		}
	}
	return wrong
}

// wrongBlocks are no blocks' numbers that are taken: fixed ones, those beside the greatest one, and such as have the number of one in their lowest bits.
func wrongBlocks() []int {
	wrong := []int{-1, -2, -12, -100, -236, -244, -255, -256, 256, 257, 268, 276, 300, 511, 512, 524, 4096, 65536 + 20, 1<<24 + 20, 1<<31 - 1, 1 << 31, -1 << 31, 1<<32 + 20, -1<<32 + 20, math.MaxInt, math.MinInt, math.MinInt + 20}
	for at := range 12 {
		wrong = append(wrong, at)
	}
	return wrong
}

// slowFree are the free blocks of s, as they are met from the last one back.
func slowFree(s []byte) []int {
	var free []int
	for at := 255; at >= 0; at-- {
		if s[at] == unused {
			free = append([]int{at}, free...)
		}
	}
	return free
}

// turned is s with another mark at at.
func turned(s []byte, at int, mark byte) []byte {
	out := bytes.Clone(s)
	out[at] = mark
	return out
}

// settled is s, whose blocks that were given up are free.
func settled(s []byte) []byte {
	return bytes.ReplaceAll(s, []byte{later}, []byte{unused})
}

func wantCheck(t *testing.T, what string, s []byte, want api.Errno) {
	t.Helper()
	if e := space.Check(s); e != want {
		t.Errorf("%s: Check = %d; want %d", what, e, want)
	}
}

func wantFree(t *testing.T, s []byte, want []int) {
	t.Helper()
	if l, e := space.Free(s); e != api.OK || !slices.Equal(l, want) {
		t.Errorf("Free(%v) = %v, %d; want %v", s, l, e, want)
	}
}

func wantTake(t *testing.T, s []byte, want int) {
	t.Helper()
	if out, at, e := space.Take(s); e != api.OK || at != want || !bytes.Equal(out, turned(s, want, used)) {
		t.Errorf("Take(%v) = %v, %d, %d; want %d", s, out, at, e, want)
	}
}

// wantNoTake asks that beside the error all is zero; so the other ones with 'No' do.
func wantNoTake(t *testing.T, what string, s []byte, want api.Errno) {
	t.Helper()
	if out, at, e := space.Take(s); e != want || len(out) != 0 || at != 0 {
		t.Errorf("%s: Take = %v, %d, %d; want %d", what, out, at, e, want)
	}
}

func wantGive(t *testing.T, s []byte, at int) {
	t.Helper()
	if out, e := space.Give(s, at); e != api.OK || !bytes.Equal(out, turned(s, at, later)) {
		t.Errorf("Give(%v, %d) = %v, %d", s, at, out, e)
	}
}

func wantNoGive(t *testing.T, what string, s []byte, at int, want api.Errno) {
	t.Helper()
	if out, e := space.Give(s, at); e != want || len(out) != 0 {
		t.Errorf("%s: Give(.., %d) = %v, %d; want %d", what, at, out, e, want)
	}
}

func wantSettle(t *testing.T, s []byte) {
	t.Helper()
	if out, e := space.Settle(s); e != api.OK || !bytes.Equal(out, settled(s)) {
		t.Errorf("Settle(%v) = %v, %d", s, out, e)
	}
}

// take is asked for tables with a free block.
func take(t *testing.T, s []byte) ([]byte, int) {
	t.Helper()
	out, at, e := space.Take(s)
	if e != api.OK {
		t.Fatalf("Take(%v): %d", s, e)
	}
	return out, at
}

// give is asked for blocks that are used.
func give(t *testing.T, s []byte, at int) []byte {
	t.Helper()
	out, e := space.Give(s, at)
	if e != api.OK {
		t.Fatalf("Give(%v, %d): %d", s, at, e)
	}
	return out
}

// settle is asked for tables that may be.
func settle(t *testing.T, s []byte) []byte {
	t.Helper()
	out, e := space.Settle(s)
	if e != api.OK {
		t.Fatalf("Settle(%v): %d", s, e)
	}
	return out
}

func TestP121New(t *testing.T) {
	s := space.New()
	if len(s) != 256 || !bytes.Equal(s[:12], bytes.Repeat([]byte{1}, 12)) || !bytes.Equal(s[12:], make([]byte, 244)) {
		t.Errorf("New = %v", s)
	}
	wantCheck(t, "New", s, api.OK)
}

func TestP121Check(t *testing.T) {
	for i, s := range tables() {
		wantCheck(t, fmt.Sprint("table ", i), s, api.OK)
	}
	for what, s := range wrongTables() {
		wantCheck(t, what, s, api.ErrBad)
	}
}

// Each byte at each place: three marks may stand behind the fixed blocks, one may stand at these.
func TestP121CheckEachByte(t *testing.T) {
	for at := range 256 {
		for mark := range 256 {
			want := api.ErrBad
			if mark == used || at >= 12 && (mark == unused || mark == later) {
				want = api.OK
			}
			for _, s := range [][]byte{space.New(), all(used), all(later)} {
				wantCheck(t, fmt.Sprintf("%d at %d", mark, at), turned(s, at, byte(mark)), want)
			}
		}
	}
}

func TestP121Free(t *testing.T) {
	for _, s := range tables() {
		wantFree(t, s, slowFree(s))
	}
	var from []int
	for at := 12; at < 256; at++ {
		from = append(from, at)
		wantFree(t, but(used, at, unused), []int{at})
		wantFree(t, but(later, at, unused), []int{at})
	}
	wantFree(t, space.New(), from)
	wantFree(t, all(unused), from)
	wantFree(t, all(used), nil)
	wantFree(t, all(later), nil)
	var thirds []int
	for at := 12; at < 256; at += 3 {
		thirds = append(thirds, at)
	}
	wantFree(t, table(func(at int) byte { return []byte{unused, used, later}[at%3] }), thirds)
}

// Behind an error there is no answer, whichever call it is, also where it has another fault of its own.
func TestP121WrongTables(t *testing.T) {
	for what, s := range wrongTables() {
		if l, e := space.Free(s); e != api.ErrBad || len(l) != 0 {
			t.Errorf("%s: Free = %v, %d", what, l, e)
		}
		wantNoTake(t, what, s, api.ErrBad)
		if out, e := space.Settle(s); e != api.ErrBad || len(out) != 0 {
			t.Errorf("%s: Settle = %v, %d", what, out, e)
		}
		for _, at := range []int{12, 20, 255, -1, 0, 11, 256, math.MaxInt, math.MinInt} {
			wantNoGive(t, what, s, at, api.ErrBad)
		}
	}
}

// All that is free is taken, the lowest one first, and then nothing is.
func TestP122TakeAll(t *testing.T) {
	for i, s := range tables() {
		if i%7 != 0 {
			continue
		}
		for _, at := range slowFree(s) {
			wantTake(t, s, at)
			s, _ = take(t, s)
		}
		wantNoTake(t, fmt.Sprint("table ", i, ", all taken"), s, api.ErrFull)
	}
}

func TestP122TakeLowest(t *testing.T) {
	for i, s := range tables() {
		if free := slowFree(s); len(free) > 0 {
			wantTake(t, s, free[0])
		} else {
			wantNoTake(t, fmt.Sprint("table ", i), s, api.ErrFull)
		}
	}
	for at := 12; at < 256; at++ {
		wantTake(t, but(used, at, unused), at)
		wantTake(t, but(later, at, unused), at)
		wantTake(t, upTo(at, used, unused), at)
		wantTake(t, upTo(at, later, unused), at)
	}
}

// None is free where all are used, or given up, or either.
func TestP122TakeFull(t *testing.T) {
	wantNoTake(t, "all used", all(used), api.ErrFull)
	wantNoTake(t, "all given up", all(later), api.ErrFull)
	for at := 12; at < 256; at++ {
		wantNoTake(t, fmt.Sprint("used, but for ", at), but(used, at, later), api.ErrFull)
		wantNoTake(t, fmt.Sprint("given up, but for ", at), but(later, at, used), api.ErrFull)
	}
}

// Of each block, by each mark that it may have.
func TestP122Give(t *testing.T) {
	for i, s := range tables() {
		for at := 12; at < 256; at++ {
			if s[at] == used {
				wantGive(t, s, at)
			} else {
				wantNoGive(t, fmt.Sprint("table ", i), s, at, api.ErrNone)
			}
		}
	}
}

// A fixed block is Used, but none that is given up: its number is refused ahead of its mark.
func TestP122GiveWrongBlocks(t *testing.T) {
	for _, s := range [][]byte{space.New(), all(used), all(unused), all(later)} {
		for _, at := range wrongBlocks() {
			wantNoGive(t, "no block", s, at, api.ErrArg)
		}
	}
	wantGive(t, all(used), 12)
	wantGive(t, all(used), 255)
	wantNoGive(t, "free", all(unused), 12, api.ErrNone)
	wantNoGive(t, "free", all(unused), 255, api.ErrNone)
	wantNoGive(t, "given up", all(later), 12, api.ErrNone)
	wantNoGive(t, "given up", all(later), 255, api.ErrNone)
}

func TestP122Settle(t *testing.T) {
	for _, s := range tables() {
		wantSettle(t, s)
		wantSettle(t, settle(t, s))
	}
	if s := settle(t, all(later)); !bytes.Equal(s, space.New()) {
		t.Errorf("Settle, where all were given up: %v", s)
	}
	if s := settle(t, all(used)); !bytes.Equal(s, all(used)) {
		t.Errorf("Settle, where none was given up: %v", s)
	}
}

// room is a list with all that lies in the room to spare behind it.
func room[T any](l []T) []T {
	return l[:cap(l)]
}

// spoil turns a table, and the room to spare behind it.
func spoil(s []byte) {
	for i := range room(s) {
		room(s)[i] ^= 255
	}
}

// Also what lies in the room to spare behind a table stays what it is, and counts for nothing.
func TestP123OnlyReads(t *testing.T) {
	for i, s := range append(tables(), nil, []byte{}, but(used, 3, 0), but(used, 30, 7), all(used)[:255], all(used)[:300]) {
		was := bytes.Clone(room(s))
		for range 2 {
			space.Check(s)
			space.Free(s)
			space.Take(s)
			for _, at := range []int{12, 13, 100, 255, 256, -1} {
				space.Give(s, at)
			}
			space.Settle(s)
		}
		if !bytes.Equal(room(s), was) {
			t.Errorf("table %d is turned", i)
		}
	}
}

// What is answered stays what it is when what was handed in, or another answer, is turned, and the other way round.
func TestP123IsNewMemory(t *testing.T) {
	for i, s := range [][]byte{space.New(), all(unused), but(later, 30, unused), but(unused, 30, later), chance(1, [3]uint32{1, 1, 1}), chance(2, [3]uint32{1, 1, 1})} {
		s = turned(s, 200, used)
		was := bytes.Clone(s)
		answered := func() [][]byte {
			taken, _ := take(t, s)
			return [][]byte{taken, give(t, s, 200), settle(t, s), space.New()}
		}
		one, other, want := answered(), answered(), answered()
		for k := range want {
			want[k] = bytes.Clone(want[k])
		}
		for _, out := range other {
			spoil(out)
		}
		if !bytes.Equal(s, was) {
			t.Errorf("table %d: an answer shares memory with what is handed in", i)
		}
		spoil(s)
		for k, out := range one {
			if !bytes.Equal(out, want[k]) {
				t.Errorf("table %d: answer %d shares memory", i, k)
			}
		}
	}
}

// Also where nothing is to be turned, a table is answered in new memory.
func TestP123SettleOfNone(t *testing.T) {
	for _, s := range [][]byte{space.New(), all(used)} {
		was := bytes.Clone(s)
		spoil(settle(t, s))
		if !bytes.Equal(s, was) {
			t.Errorf("Settle answers what it is handed: %v", s)
		}
	}
}

// A list of free blocks is each call's own.
func TestP123FreeIsNew(t *testing.T) {
	s := space.New()
	one, _ := space.Free(s)
	other, _ := space.Free(s)
	for i := range room(other) {
		room(other)[i] = -1
	}
	if !slices.Equal(one, slowFree(s)) {
		t.Errorf("two lists share memory: %v", one)
	}
	wantFree(t, s, slowFree(s))
}

// What is answered may be, whatever it comes from.
func TestP124MayBe(t *testing.T) {
	for i, s := range tables() {
		if out, _, e := space.Take(s); e == api.OK {
			wantCheck(t, fmt.Sprint("Take, table ", i), out, api.OK)
		}
		for at := 12; at < 256; at += 9 {
			if out, e := space.Give(s, at); e == api.OK {
				wantCheck(t, fmt.Sprint("Give, table ", i), out, api.OK)
			}
		}
		wantCheck(t, fmt.Sprint("Settle, table ", i), settle(t, s), api.OK)
	}
}

// What was given up is taken by nobody until it is settled, also where nothing else is left; then it is free, and taken.
func TestP124GivenUpWaits(t *testing.T) {
	for at := 12; at < 256; at++ {
		s := give(t, all(used), at)
		wantFree(t, s, nil)
		wantNoTake(t, fmt.Sprint(at, " given up"), s, api.ErrFull)
		wantNoGive(t, "given up already", s, at, api.ErrNone)
		s = settle(t, s)
		wantFree(t, s, []int{at})
		wantNoGive(t, "settled", s, at, api.ErrNone)
		wantTake(t, s, at)
		s, _ = take(t, s)
		if !bytes.Equal(s, all(used)) {
			t.Errorf("%d given up, settled and taken: %v", at, s)
		}
	}
}

// marks are what each block should be: in one of three sets, which together are all blocks that are not fixed.
type marks [3]map[int]bool

func newMarks() marks {
	m := marks{{}, {}, {}}
	for at := 12; at < 256; at++ {
		m[unused][at] = true
	}
	return m
}

// turn puts a block from one set into another one.
func (m marks) turn(at int, from, to byte) {
	delete(m[from], at)
	m[to][at] = true
}

// lowest is that of a set; 0: it has none.
func (m marks) lowest(mark byte) int {
	for at := 12; at < 256; at++ {
		if m[mark][at] {
			return at
		}
	}
	return 0
}

// nth is one of a set, by any number; 0: it has none.
func (m marks) nth(mark byte, n uint32) int {
	for k := range 244 {
		if at := 12 + (int(n%244)+k)%244; m[mark][at] {
			return at
		}
	}
	return 0
}

// table is what a table of them should be.
func (m marks) table() []byte {
	return table(func(at int) byte {
		for mark := range byte(3) {
			if m[mark][at] {
				return mark
			}
		}
		return 255
	})
}

// taken is s behind a Take.
func (m marks) taken(t *testing.T, s []byte) []byte {
	t.Helper()
	low := m.lowest(unused)
	if low == 0 {
		wantNoTake(t, "none is free", s, api.ErrFull)
		return s
	}
	out, at := take(t, s)
	if at != low {
		t.Fatalf("%d was taken; want %d", at, low)
	}
	m.turn(at, unused, used)
	return out
}

// given is s behind a Give of one that is used, or of one that is not.
func (m marks) given(t *testing.T, s []byte, n uint32) []byte {
	t.Helper()
	for _, mark := range []byte{unused, later} {
		if at := m.nth(mark, n); at != 0 {
			wantNoGive(t, "not used", s, at, api.ErrNone)
		}
	}
	at := m.nth(used, n)
	if at == 0 {
		return s
	}
	m.turn(at, used, later)
	return give(t, s, at)
}

// settled is s behind a Settle.
func (m marks) settled(t *testing.T, s []byte) []byte {
	t.Helper()
	for at := m.lowest(later); at != 0; at = m.lowest(later) {
		m.turn(at, later, unused)
	}
	return settle(t, s)
}

// Many calls, one behind the other, beside plain sets: each block is free, somebody's, or waits; no call turns another block than its own.
func TestP124W3ManySteps(t *testing.T) {
	for seed, often := range []uint32{3, 5, 6, 7} { // of ten calls so many take
		s, m, state := space.New(), newMarks(), uint32(seed)
		fulls := 0
		for step := range 3000 {
			state = state*1664525 + 1013904223
			n := state >> 8
			switch {
			case n%10 < often:
				s = m.taken(t, s)
			case n%101 != 0:
				s = m.given(t, s, n/1000)
			default:
				s = m.settled(t, s)
			}
			if m.lowest(unused) == 0 {
				fulls++
			}
			if want := m.table(); !bytes.Equal(s, want) {
				t.Fatalf("seed %d, step %d: %v; want %v", seed, step, s, want)
			}
			wantFree(t, s, slowFree(s))
			wantCheck(t, "a step", s, api.OK)
		}
		if often > 6 && fulls == 0 {
			t.Errorf("seed %d: some block was free all the time", seed)
		}
	}
}

// No block has two owners: what two that go on from one table take is the same, what goes on from what was answered is another one.
func TestP124W3NoTwoOwners(t *testing.T) {
	owners := map[int]int{}
	s := space.New()
	for n := range 244 {
		var at int
		s, at = take(t, s)
		if _, there := owners[at]; there || at < 12 {
			t.Errorf("%d has two owners", at)
		}
		owners[at] = n
		if n%3 == 2 {
			s = give(t, s, at)
		}
	}
	wantNoTake(t, "all are taken or given up", s, api.ErrFull)
	s = settle(t, s)
	for _, at := range slowFree(s) {
		if owners[at]%3 != 2 {
			t.Errorf("%d is free, though it has an owner", at)
		}
	}
	if len(slowFree(s)) != 81 {
		t.Errorf("%d are free; want 81", len(slowFree(s)))
	}
}

func TestExamples(t *testing.T) {
	s := space.New()
	if l, e := space.Free(s); e != api.OK || len(l) != 244 {
		t.Errorf("Free(New): %d, %d", len(l), e)
	}
	wantTake(t, s, 12)
	wantNoGive(t, "New", s, 12, api.ErrNone)
	wantNoGive(t, "New", s, 11, api.ErrArg)
	s, _ = take(t, s)
	s = give(t, s, 12)
	wantTake(t, s, 13)
	wantTake(t, settle(t, s), 12)
}

// answers are all that the calls answer to a table and a block.
func answers(s []byte, at int) string {
	free, e := space.Free(s)
	taken, which, f := space.Take(s)
	given, g := space.Give(s, at)
	out, h := space.Settle(s)
	return fmt.Sprint(space.New(), space.Check(s), free, e, taken, which, f, given, g, out, h)
}

func TestR1AllEnd(t *testing.T) {
	for _, s := range wrongTables() {
		space.Check(s)
		space.Free(s)
		space.Take(s)
		space.Give(s, 12)
		space.Settle(s)
	}
	for _, s := range [][]byte{nil, {}, space.New(), all(used), all(later), make([]byte, 1<<24)} {
		for _, at := range append(wrongBlocks(), 12, 13, 254, 255) {
			answers(s, at)
		}
	}
}

// The same arguments have the same answers, also side by side, and no goroutine is left behind.
func TestR2ArgumentsAlone(t *testing.T) {
	s := turned(chance(9, [3]uint32{1, 1, 1}), 200, used)
	began, want, wrong := runtime.NumGoroutine(), answers(s, 200), answers(s[:255], 200)
	if now := runtime.NumGoroutine(); now > began {
		t.Errorf("%d goroutines; there were %d", now, began)
	}
	if full := answers(s[:len(s):len(s)], 200); full != want {
		t.Error("an answer hangs on the room to spare")
	}
	var wait sync.WaitGroup
	for range 8 {
		wait.Go(func() {
			for range 50 {
				if answers(s, 200) != want || answers(s[:255], 200) != wrong {
					t.Error("a call has two answers")
				}
			}
		})
	}
	wait.Wait()
}
