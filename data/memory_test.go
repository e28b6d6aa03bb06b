package data_test

import (
	"cmp"
	"encoding/binary"
	"fmt"
	"hash/fnv"
	"math"
	"reflect"
	"runtime"
	"slices"
	"sync"
	"testing"

	"charterhouse/api"
	"charterhouse/data"
	"charterhouse/txg"
)

// piece is memory that a list has, the room to spare behind it too.
type piece struct {
	from, to uintptr
	what     string
}

// pieces are those of all lists that x has, however deep.
func pieces(what string, x reflect.Value) (l []piece) {
	switch x.Kind() {
	case reflect.Struct:
		for i := range x.NumField() {
			l = append(l, pieces(what+"."+x.Type().Field(i).Name, x.Field(i))...)
		}
	case reflect.Slice:
		if long := uintptr(x.Cap()) * x.Type().Elem().Size(); long > 0 {
			l = append(l, piece{x.Pointer(), x.Pointer() + long, what})
		}
		for i := range x.Len() {
			l = append(l, pieces(what+"[]", x.Index(i))...)
		}
	}
	return l
}

// wantApart asks that no two lists of all of these share memory, neither within one nor between two.
func wantApart(t *testing.T, what string, all ...any) {
	t.Helper()
	var l []piece
	for i, x := range all {
		l = append(l, pieces(fmt.Sprint(i), reflect.ValueOf(x))...)
	}
	slices.SortFunc(l, func(a, b piece) int { return cmp.Compare(a.from, b.from) })
	for i := range l[1:] {
		if l[i].to > l[i+1].from {
			t.Errorf("%s: %s and %s share memory", what, l[i].what, l[i+1].what)
		}
	}
}

// roomy is x, each list of which has room to spare, with something in it.
func roomy(x reflect.Value) reflect.Value {
	out := reflect.New(x.Type()).Elem()
	switch x.Kind() {
	case reflect.Struct:
		for i := range x.NumField() {
			out.Field(i).Set(roomy(x.Field(i)))
		}
	case reflect.Slice:
		out.Set(reflect.MakeSlice(x.Type(), x.Len()+3, x.Len()+3))
		for i := range x.Len() {
			out.Index(i).Set(roomy(x.Index(i)))
		}
		if x.Len() > 0 {
			for i := range 3 {
				out.Index(x.Len() + i).Set(roomy(x.Index(0)))
			}
		}
		out.Set(out.Slice(0, x.Len()))
	default:
		out.Set(x)
	}
	return out
}

func roomyPool(p api.Pool) api.Pool { return roomy(reflect.ValueOf(p)).Interface().(api.Pool) }
func roomyText(b []byte) []byte     { return roomy(reflect.ValueOf(b)).Interface().([]byte) }

// whole tells a number of all that x has, the room to spare behind its lists too.
func whole(x any) uint64 {
	sum := fnv.New64a()
	number := func(n uint64) { sum.Write(binary.LittleEndian.AppendUint64(nil, n)) }
	var tell func(x reflect.Value)
	tell = func(x reflect.Value) {
		switch x.Kind() {
		case reflect.Struct:
			for i := range x.NumField() {
				tell(x.Field(i))
			}
		case reflect.Slice:
			number(uint64(x.Len()))
			number(uint64(x.Cap()))
			all := x.Slice(0, x.Cap())
			if all.Type().Elem().Kind() == reflect.Uint8 {
				sum.Write(all.Bytes())
				return
			}
			for i := range all.Len() {
				tell(all.Index(i))
			}
		case reflect.Int:
			number(uint64(x.Int()))
		default:
			number(x.Uint())
		}
	}
	tell(reflect.ValueOf(x))
	return sum.Sum64()
}

// pools are such as are changed and read, and such as are refused, with something in all their lists.
func pools(t *testing.T) map[string]api.Pool {
	all := badPools(t)
	room := busy(t)
	room.Lines, room.NextId = room.Lines[:6], 12
	ends := slowTwin(room)
	ends.Gen = mostTxg
	broken := base(t)
	row, _ := rooted(broken, 0, 0)
	row[7] ^= 1
	free := slowTwin(room)
	free.Store.Space[changeOf(room, one, 0, 2).Laid.At] = unused
	for what, p := range map[string]api.Pool{
		"New": txg.New(), "base": base(t), "busy": busy(t), "room": room, "the last sync": ends, "no keys": loaded(room), "broken": broken, "free": free,
	} {
		all[what] = p
	}
	return all
}

// asked are what a pool's calls are asked for: a line, and an object.
func asked() [][2]int {
	return [][2]int{{one, 0}, {one, 5}, {one, 7}, {one, 8}, {one, 16}, {snap, 0}, {copied, 0}, {copied, 8}, {other, 15}, {locked, 0}, {bare, 3}, {5, 0}}
}

// All calls only read, the room to spare too; what they answer is new memory.
func TestP206(t *testing.T) {
	for what, p := range pools(t) {
		want := answers(p)
		p = roomyPool(p)
		k, b, nothing := roomyText(key(7)), roomyText(text(1)[:100]), roomyText(nil)
		was := []uint64{whole(p), whole(k), whole(b), whole(nothing)}
		made, _, _ := data.Create(p, "new", k)
		again, _, _ := data.Create(p, "new", k)
		wantApart(t, what, p, k, made, again)
		for _, at := range asked() {
			id, obj := at[0], at[1]
			opened, _ := data.Load(p, id, pass(2))
			closed, _ := data.Unload(p, id)
			line, _ := data.Line(p, id)
			twin, _ := data.Line(p, id)
			edited, _ := data.Edit(p, id, obj, 2, b)
			once, _ := data.Edit(p, id, obj, 2, b)
			emptied, _ := data.Edit(p, id, obj, 1, nothing)
			set, _ := data.Set(p, id, obj, 1, 2, 3)
			away, _ := data.Set(p, id, obj, 0, 0, 0)
			all := []any{p, k, b, nothing, opened, closed, line, twin, edited, once, emptied, set, away}
			for index := range 15 {
				read, _ := data.Read(p, id, obj, index)
				all = append(all, read)
			}
			wantApart(t, fmt.Sprint(what, at), all...)
		}
		if now := []uint64{whole(p), whole(k), whole(b), whole(nothing)}; !slices.Equal(now, was) {
			t.Errorf("%s: what was handed in is turned", what)
		}
		if answers(p) != want {
			t.Errorf("%s: an answer hangs on the room to spare", what)
		}
	}
}

// What was answered may be gone on with, and so may what was handed in: neither reaches the other one.
func TestP206Apart(t *testing.T) {
	p := busy(t)
	was := slowTwin(p)
	b := text(80)
	q := wantEdit(t, "busy", p, one, 0, 6, b, api.OK)
	wasQ := slowTwin(q)
	clear(b)
	for n := range 3 {
		r := wantEdit(t, "what was answered", q, one, 0, 6, text(n), api.OK)
		s := wantSet(t, "what was answered", q, one, 0, 0, 0, 0, api.OK)
		wantEdit(t, "what was handed in", p, one, 0, 6, text(n), api.OK)
		wantEdit(t, "at once", p, one, 0, 7, text(n), api.OK)
		read, _ := data.Read(q, one, 0, 6)
		line, _ := data.Line(q, copied)
		for _, x := range []api.Pool{r, s} {
			for _, c := range x.Changes {
				clear(c.Data)
			}
			clear(x.Changes)
			clear(x.Lines)
			clear(x.Store.Space)
		}
		clear(read)
		clear(line.Dead)
	}
	if d := differ(p, was); d != "" {
		t.Errorf("what was handed in: %s", d)
	}
	if d := differ(q, wasQ); d != "" {
		t.Errorf("what was answered: %s", d)
	}
	k := key(9)
	room := lines(t, 3)
	r, _ := wantCreate(t, "a key", room, "x", k, api.OK)
	clear(k)
	if !slices.Equal(r.Loaded[1], key(9)) {
		t.Errorf("the key that is loaded was turned: % x", r.Loaded[1])
	}
}

// What is answered beside an error is zero.
func TestErrorsAlone(t *testing.T) {
	refused := map[api.Errno]int{}
	note := func(what string, e api.Errno, isZero bool) {
		if e != api.OK && !isZero {
			t.Errorf("%s: something is answered beside error %d", what, e)
		}
		refused[e]++
	}
	for what, p := range pools(t) {
		for _, k := range [][]byte{key(1), nil} {
			q, id, e := data.Create(p, "x", k)
			note(what, e, isZero(q) && id == 0)
		}
		for _, at := range asked() {
			id, obj := at[0], at[1]
			q, e := data.Load(p, id, pass(2))
			note(what, e, isZero(q))
			q, e = data.Unload(p, id)
			note(what, e, isZero(q))
			l, e := data.Line(p, id)
			note(what, e, fmt.Sprint(l) == fmt.Sprint(api.Line{}))
			q, e = data.Set(p, id, obj, 0, 0, 0)
			note(what, e, isZero(q))
			kind, links, size, e := data.Get(p, id, obj)
			note(what, e, kind == 0 && links == 0 && size == 0)
			for index := range 16 {
				q, e = data.Edit(p, id, obj, index, text(1))
				note(what, e, isZero(q))
				b, e := data.Read(p, id, obj, index)
				note(what, e, len(b) == 0)
			}
		}
	}
	for _, e := range []api.Errno{api.OK, api.ErrArg, api.ErrText, api.ErrNone, api.ErrBad, api.ErrFull, api.ErrSum, api.ErrKey, api.ErrPass, api.ErrFrozen} {
		if refused[e] < 2 {
			t.Errorf("error %d: %d times", e, refused[e])
		}
	}
}

// answers are all that the calls answer to a pool, as a text.
func answers(p api.Pool) (told string) {
	note := func(p api.Pool, e api.Errno) { told += fmt.Sprint(" ", e, whole(slowTwin(p))) }
	q, id, e := data.Create(p, "new", key(7))
	note(q, e)
	told += fmt.Sprint(" ", id)
	for _, at := range asked() {
		id, obj := at[0], at[1]
		note(data.Load(p, id, pass(2)))
		note(data.Unload(p, id))
		note(data.Edit(p, id, obj, 2, text(1)[:9]))
		note(data.Edit(p, id, obj, 14, nil))
		note(data.Set(p, id, obj, 0, 0, 0))
		note(data.Set(p, id, obj, 7, 255, 3840))
		line, e := data.Line(p, id)
		told += fmt.Sprint(" ", line, e)
		kind, links, size, e := data.Get(p, id, obj)
		told += fmt.Sprint(" ", kind, links, size, e)
		for index := range 15 {
			b, e := data.Read(p, id, obj, index)
			told += fmt.Sprint(" ", e, whole(append([]byte(nil), b...)[:len(b):len(b)]))
		}
	}
	return told
}

// Whatever it is handed, no call panics, and all end.
func TestR1AllEnd(t *testing.T) {
	great := base(t)
	great.Changes = make([]api.Change, 1<<16)
	wide := base(t)
	wide.Lines = make([]api.Line, 1<<16)
	long := base(t)
	long.Store.Disk.Blocks = append(long.Store.Disk.Blocks, make([][]byte, 1<<16)...)
	far := base(t)
	far.Changes = []api.Change{{Set: one, Obj: math.MaxInt, Index: math.MinInt}}
	owned := base(t)
	owned.Lines[0].Key = math.MaxInt
	for what, p := range map[string]api.Pool{"none": {}, "great": great, "wide": wide, "long": long, "far": far, "owned": owned} {
		wantCreate(t, what, p, "", key(1), api.ErrBad)
		for _, id := range append(noIds(), one, snap) {
			wantRefused(t, what, p, id, api.ErrBad)
		}
	}
	p := busy(t)
	for _, id := range []int{math.MinInt, math.MaxInt, -1 << 32, 1<<32 + 1} {
		wantRefused(t, "busy", p, id, api.ErrNone)
	}
	for _, obj := range wrongObjs() {
		for _, index := range wrongPlaces() {
			wantRead(t, "busy", p, one, obj, index, nil, api.ErrArg)
			wantEdit(t, "busy", p, one, obj, index, text(1), api.ErrArg)
			wantSet(t, "busy", p, one, obj, 1, index, index, api.ErrArg)
		}
		wantGet(t, "busy", p, one, obj, 0, api.ErrArg)
	}
}

// unless tells that there is something else, unless there is not.
func unless(same bool) string {
	if same {
		return ""
	}
	return "something else is answered"
}

// anyPool is busy, in which something is another thing by lot: bytes of blocks, marks, changes, keys.
func anyPool(c *chance, p api.Pool) api.Pool {
	p = slowTwin(p)
	if c.of(2) > 0 {
		for range 1 + c.of(3) {
			p.Store.Disk.Blocks[firstBlock+c.of(60)][c.of(256)] ^= byte(1 << c.of(8))
		}
	}
	if c.of(3) == 0 {
		for range 1 + c.of(20) {
			if at := firstBlock + c.of(244); !slices.Contains(p.Meta, at) || c.of(50) == 0 {
				p.Store.Space[at] = byte(c.of(3))
			}
		}
	}
	for range c.of(5) {
		x := api.Change{Set: []int{one, copied, other, locked, bare, last}[c.of(6)], Obj: []int{0, 2, 7, 8, 15}[c.of(5)], Index: c.of(16)}
		if x.Index == head {
			if x.Kind = uint8(c.of(3)); x.Kind > 0 {
				x.Links, x.Size = c.of(256), c.of(3841)
			}
		} else if c.of(3) > 0 {
			x.Data = text(c.of(256))
		}
		if x.Index != head && c.of(3) > 0 {
			x.Laid = api.Ptr{At: firstBlock + c.of(100)*c.of(3), Birth: 5, Iv: uint32(c.of(100)), Tag: 7, Sum: slowSum(seen(p.Store.Disk, firstBlock))}
		}
		p = and(p, x)
	}
	if c.of(4) == 0 {
		p.Loaded[[]int{2, 5, 6, 0}[c.of(4)]] = [][]byte{nil, key(2), key(9)}[c.of(3)]
	}
	if c.of(3) == 0 {
		p.Lines, p.NextId = p.Lines[:6], 12+c.of(3)
		p = and(with(p), slices.DeleteFunc(p.Changes, func(x api.Change) bool { return x.Set == last })...)
	}
	return p
}

// Pools by lot, and whatever the calls are handed: each answers as the plain reading does.
func TestP20AnyPool(t *testing.T) {
	c, told := chances(5), map[api.Errno]int{}
	from := busy(t)
	note := func(what string, e, want api.Errno, differs string) {
		if e != want || differs != "" {
			t.Errorf("%s: %d; want %d; %s", what, e, want, differs)
		}
		told[e]++
	}
	for n := range 700 {
		p := anyPool(c, from)
		ids := append(lineIds(), 5)
		id, obj, index := ids[c.of(len(ids))], 0, 0
		what := fmt.Sprint("pool ", n, ", line ", id)
		for range 6 {
			if obj = c.of(18) - 1; c.of(2) > 0 {
				obj = []int{0, 2, 7, 8, 15}[c.of(5)]
			}
			if index = c.of(17) - 1; c.of(2) > 0 {
				index = []int{0, 2, 3, 4, 14}[c.of(5)]
			}
			b, e := data.Read(p, id, obj, index)
			wantB, want := plainRead(p, id, obj, index)
			note(fmt.Sprint(what, ": Read ", obj, " ", index), e, want, unless(slices.Equal(b, wantB)))
			b = text(n)[:c.of(257)*c.of(2)]
			q, e := data.Edit(p, id, obj, index, b)
			wantQ, want := plainEdit(p, id, obj, index, b)
			note(fmt.Sprint(what, ": Edit ", obj, " ", index), e, want, differ(q, wantQ))
			kind := uint8(c.of(3))
			q, e = data.Set(p, id, obj, kind, 0, 0)
			wantQ, want = plainSet(p, id, obj, kind, 0, 0)
			note(fmt.Sprint(what, ": Set ", obj, " ", kind), e, want, differ(q, wantQ))
			k, links, size, e := data.Get(p, id, obj)
			wantK, wantLinks, wantSize, want := plainGet(p, id, obj)
			note(fmt.Sprint(what, ": Get ", obj), e, want, unless(k == wantK && links == wantLinks && size == wantSize))
		}
		q, e := data.Unload(p, id)
		wantQ, want := plainUnload(p, id)
		note(what+": Unload", e, want, differ(q, wantQ))
		q, e = data.Load(p, id, pass(2))
		wantQ, want = plainLoad(p, id, pass(2))
		note(what+": Load", e, want, differ(q, wantQ))
		q, now, e := data.Create(p, "x", key(8))
		wantQ, wantNow, want := plainCreate(p, "x", key(8))
		note(what+": Create", e, want, differ(q, wantQ)+unless(now == wantNow))
	}
	for _, e := range []api.Errno{api.OK, api.ErrArg, api.ErrNone, api.ErrBad, api.ErrFull, api.ErrSum, api.ErrTag, api.ErrKey, api.ErrPass, api.ErrFrozen} {
		if told[e] < 5 {
			t.Errorf("error %d: %d times", e, told[e])
		}
	}
}

// The same arguments have the same answers, also side by side, and no goroutine is left behind.
func TestR2ArgumentsAlone(t *testing.T) {
	p, bad := busy(t), api.Pool{}
	p.Lines, p.NextId = p.Lines[:6], 12
	began := runtime.NumGoroutine()
	want, wantBad := answers(p), answers(bad)
	if now := runtime.NumGoroutine(); now > began {
		t.Errorf("%d goroutines; there were %d", now, began)
	}
	var wait sync.WaitGroup
	for range 8 {
		wait.Go(func() {
			for range 3 {
				if answers(p) != want || answers(bad) != wantBad {
					t.Error("a call has two answers")
				}
			}
		})
	}
	wait.Wait()
}
