package log_test

import (
	"cmp"
	"encoding/binary"
	"fmt"
	"hash/fnv"
	"reflect"
	"runtime"
	"slices"
	"sync"
	"testing"

	"charterhouse/api"
	"charterhouse/label"
	"charterhouse/log"
	"charterhouse/txg"
)

// piece is memory that a list has, the room to spare behind it too.
type piece struct {
	from, to uintptr
	what     string
}

// pieces are those of all lists that x has, however deep.
func pieces(what string, x reflect.Value) (l []piece) {
	switch x.Kind() {
	case reflect.Struct:
		for i := range x.NumField() {
			l = append(l, pieces(what+"."+x.Type().Field(i).Name, x.Field(i))...)
		}
	case reflect.Slice:
		if long := uintptr(x.Cap()) * x.Type().Elem().Size(); long > 0 {
			l = append(l, piece{x.Pointer(), x.Pointer() + long, what})
		}
		for i := range x.Len() {
			l = append(l, pieces(what+"[]", x.Index(i))...)
		}
	}
	return l
}

// wantApart asks that no two lists of all of these share memory, neither within one nor between two.
func wantApart(t *testing.T, what string, all ...any) {
	t.Helper()
	var l []piece
	for i, x := range all {
		l = append(l, pieces(fmt.Sprint(i), reflect.ValueOf(x))...)
	}
	slices.SortFunc(l, func(a, b piece) int { return cmp.Compare(a.from, b.from) })
	for i := range l[1:] {
		if l[i].to > l[i+1].from {
			t.Errorf("%s: %s and %s share memory", what, l[i].what, l[i+1].what)
		}
	}
}

// roomy is x, each list of which has room to spare, with something in it.
func roomy(x reflect.Value) reflect.Value {
	out := reflect.New(x.Type()).Elem()
	switch x.Kind() {
	case reflect.Struct:
		for i := range x.NumField() {
			out.Field(i).Set(roomy(x.Field(i)))
		}
	case reflect.Slice:
		out.Set(reflect.MakeSlice(x.Type(), x.Len()+3, x.Len()+3))
		for i := range x.Len() {
			out.Index(i).Set(roomy(x.Index(i)))
		}
		if x.Len() > 0 {
			for i := range 3 {
				out.Index(x.Len() + i).Set(roomy(x.Index(0)))
			}
		}
		out.Set(out.Slice(0, x.Len()))
	default:
		out.Set(x)
	}
	return out
}

func roomyPool(p api.Pool) api.Pool { return roomy(reflect.ValueOf(p)).Interface().(api.Pool) }

// whole tells a number of all that x has, the room to spare behind its lists too.
func whole(x any) uint64 {
	sum := fnv.New64a()
	number := func(n uint64) { sum.Write(binary.LittleEndian.AppendUint64(nil, n)) }
	var tell func(x reflect.Value)
	tell = func(x reflect.Value) {
		switch x.Kind() {
		case reflect.Struct:
			for i := range x.NumField() {
				tell(x.Field(i))
			}
		case reflect.Slice:
			number(uint64(x.Len()))
			number(uint64(x.Cap()))
			all := x.Slice(0, x.Cap())
			if all.Type().Elem().Kind() == reflect.Uint8 {
				sum.Write(all.Bytes())
				return
			}
			for i := range all.Len() {
				tell(all.Index(i))
			}
		case reflect.Int:
			number(uint64(x.Int()))
		default:
			number(x.Uint())
		}
	}
	tell(reflect.ValueOf(x))
	return sum.Sum64()
}

// pools are such as are committed or replayed, and such as are refused, with something in all their lists.
func pools() map[string]api.Pool {
	all := badPools()
	more := map[string]api.Pool{
		"New":         txg.New(),
		"mixed":       mixed(),
		"long":        with(base(), puts(1, 60)...),
		"holes":       with(base(), holes(1, 60)...),
		"all laid":    with(base(), laid(1, 0, 0, 100), heading(1, 0, 1), laid(255, 0, 0, 101)),
		"nothing":     with(base(), puts(4, 1)...),
		"too long":    with(base(), puts(1, 97)...),
		"full":        free(mixed(), 1),
		"logged":      logs(base(), slowBlock(gen, 0, 1, some(4)...), slowBlock(gen, 1, 1, laid(1, 2, 3, 100)), slowBlock(gen, 2, 1, laid(1, 2, 3, 101))),
		"log of none": logs(base(), slowBlock(gen, 0, 1, some(3)...)),
		"log of one":  logs(base(), slowBlock(gen, 0, 1, laid(4, 0, 0, 100), laid(4, 0, 1, 100))),
	}
	for what, p := range more {
		all[what] = p
	}
	locked := mixed()
	locked.Loaded = make([][]byte, 8)
	all["locked"] = locked
	return all
}

// All calls only read, the room to spare too; what they answer is new memory.
func TestP184(t *testing.T) {
	for what, p := range pools() {
		want := answers(p)
		p = roomyPool(p)
		was := whole(p)
		one, _ := log.Commit(p, 1)
		again, _ := log.Commit(p, 1)
		first, _ := log.Half(p, 1, 1)
		second, _ := log.Half(p, 1, 2)
		third, _ := log.Half(p, 1, 3)
		nothing, _ := log.Commit(p, 9)
		none, _ := log.Half(p, 9, 1)
		replayed, _ := log.Replay(p)
		once, _ := log.Replay(p)
		if whole(p) != was {
			t.Errorf("%s: it is turned", what)
		}
		wantApart(t, what, p, one, again, first, second, third, nothing, none, replayed, once)
		if answers(p) != want {
			t.Errorf("%s: an answer hangs on the room to spare", what)
		}
	}
}

// What was answered may be gone on with, and so may what was handed in: neither reaches the other one.
func TestP184Apart(t *testing.T) {
	p := with(base(), append(puts(1, 14), puts(4, 14)...)...)
	q := wantCommit(t, "dataset 1", p, 1, api.OK)
	was, wasQ := slowTwin(p), slowTwin(q)
	for range 3 {
		wantCommit(t, "the one that was handed in", p, 4, api.OK)
		wantCommit(t, "the one that was answered", q, 4, api.OK)
		wantCommit(t, "the same dataset", q, 1, api.OK)
	}
	if d := differ(p, was); d != "" {
		t.Errorf("what was handed in: %s", d)
	}
	if d := differ(q, wasQ); d != "" {
		t.Errorf("what was answered: %s", d)
	}
}

// What is answered beside an error is zero.
func TestErrorsAlone(t *testing.T) {
	refused := 0
	for what, p := range pools() {
		for _, set := range append(ids(), 1, 3, 4, 9, 255) {
			q, e := log.Commit(p, set)
			if e != api.OK && !isZero(q) {
				t.Errorf("%s: a pool beside error %d", what, e)
			}
			if e != api.OK {
				refused++
			}
			for phase := range 4 {
				if d, e := log.Half(p, set, phase); e != api.OK && len(d.Blocks)+len(d.Waits) > 0 {
					t.Errorf("%s: a disk beside error %d", what, e)
				}
			}
		}
		if q, e := log.Replay(p); e != api.OK && !isZero(q) {
			t.Errorf("%s: a pool beside error %d", what, e)
		}
	}
	if refused < 100 {
		t.Errorf("%d were refused", refused)
	}
}

// answers are all that the calls answer to a pool, as a text.
func answers(p api.Pool) (told string) {
	for _, set := range []int{1, 4, 9, 3, 2} {
		q, e := log.Commit(p, set)
		told += fmt.Sprint(" ", e, whole(slowTwin(q)))
		for phase := range 4 {
			d, e := log.Half(p, set, phase)
			told += fmt.Sprint(" ", e, whole(slowTwinDisk(d)))
		}
	}
	q, e := log.Replay(p)
	return told + fmt.Sprint(" ", e, whole(slowTwin(q)))
}

// Whatever it is handed, no call panics, and all end.
func TestR1AllEnd(t *testing.T) {
	great := base()
	great.Changes = make([]api.Change, 1<<16)
	wide := base()
	wide.Lines = make([]api.Line, 1<<16)
	long := base()
	long.Store.Disk.Blocks = append(long.Store.Disk.Blocks, make([][]byte, 1<<16)...)
	for _, p := range []api.Pool{{}, great, wide, long} {
		for _, set := range append(ids(), 1, 3) {
			for _, phase := range phases() {
				if _, e := log.Half(p, set, phase); e != api.ErrBad {
					t.Errorf("error %d", e)
				}
			}
			if _, e := log.Commit(p, set); e != api.ErrBad {
				t.Errorf("error %d", e)
			}
		}
		if _, e := log.Replay(p); e != api.ErrBad {
			t.Errorf("error %d", e)
		}
	}
	// Logs whose bytes hang on chance, behind a right beginning and with a right sum.
	c := chances(7)
	for range 2000 {
		var blocks [][]byte
		for n := range 3 {
			many := c.of(14)
			b := slowHead(gen, n, []int{1, 4, 4, 3}[c.of(4)], many, c.of(3))
			for range many * 18 {
				b = append(b, byte(c.of(4)*c.of(9)))
			}
			blocks = append(blocks, summed(b))
		}
		p := logs(base(), blocks...)
		q, e := log.Replay(p)
		if want, wantE := plainReplay(p); e != wantE || differ(q, want) != "" {
			t.Errorf("Replay: %d; want %d; %s", e, wantE, differ(q, want))
		}
	}
}

// The same arguments have the same answers, also side by side, and no goroutine is left behind.
func TestR2ArgumentsAlone(t *testing.T) {
	p, bad := mixed(), with(base(), puts(1, 97)...)
	l := logs(base(), slowBlock(gen, 0, 1, some(4)...), slowBlock(gen, 1, 1, laid(1, 2, 3, 100)))
	began := runtime.NumGoroutine()
	want, wantBad, wantLog := answers(p), answers(bad), answers(l)
	if now := runtime.NumGoroutine(); now > began {
		t.Errorf("%d goroutines; there were %d", now, began)
	}
	var wait sync.WaitGroup
	for range 8 {
		wait.Go(func() {
			for range 5 {
				if answers(p) != want || answers(bad) != wantBad || answers(l) != wantLog {
					t.Error("a call has two answers")
				}
			}
		})
	}
	wait.Wait()
}

// The chapter's examples: a pool with dataset 1, which has an object of one block that is not synced yet.
func TestExamples(t *testing.T) {
	p, e := txg.Sync(txg.New())
	if e != api.OK {
		t.Fatal(e)
	}
	p.Keys[0], p.Loaded[0] = wrapped(1), key(1)
	p.Lines = []api.Line{{Id: 1, Kind: isHead, Owner: 1, Txg: p.Gen, Guid: 1}}
	p.NextId, p.NextGuid = 2, 3
	p, e = txg.Sync(p)
	if e != api.OK {
		t.Fatal(e)
	}
	nothing := wantCommit(t, "P", p, 1, api.OK)
	if nothing.Logged != 0 || !txg.Same(p, nothing) {
		t.Errorf("Commit(P, 1): %d logged", nothing.Logged)
	}
	wantCommit(t, "P", p, 5, api.ErrNone)
	q := wantCommit(t, "with an object", with(p, put(1, 0, 0), heading(1, 0, 1)), 1, api.OK)
	if q.Logged != 1 {
		t.Errorf("%d are logged", q.Logged)
	}
	if _, e := log.Half(q, 1, 3); e != api.ErrArg {
		t.Errorf("Half(.., 1, 3): %d", e)
	}
	all, e := label.Find(q.Store.Disk)
	if e != api.OK || len(all) == 0 {
		t.Fatal(all, e)
	}
	r, e := txg.Load(q.Store.Disk, all[0])
	if e != api.OK {
		t.Fatal(e)
	}
	if r = wantReplay(t, "the pool of its label", r, api.OK); len(r.Changes) != 2 {
		t.Errorf("%d changes are replayed", len(r.Changes))
	}
}
