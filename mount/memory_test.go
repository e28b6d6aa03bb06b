package mount_test

import (
	"cmp"
	"encoding/binary"
	"fmt"
	"hash/fnv"
	"math"
	"reflect"
	"runtime"
	"slices"
	"sync"
	"testing"

	"charterhouse/api"
	"charterhouse/mount"
	"charterhouse/txg"
)

// piece is memory that a list has, the room to spare behind it too.
type piece struct {
	from, to uintptr
	what     string
}

// pieces are those of all lists that x has, however deep.
func pieces(what string, x reflect.Value) (l []piece) {
	switch x.Kind() {
	case reflect.Struct:
		for i := range x.NumField() {
			l = append(l, pieces(what+"."+x.Type().Field(i).Name, x.Field(i))...)
		}
	case reflect.Slice:
		if long := uintptr(x.Cap()) * x.Type().Elem().Size(); long > 0 {
			l = append(l, piece{x.Pointer(), x.Pointer() + long, what})
		}
		for i := range x.Len() {
			l = append(l, pieces(what+"[]", x.Index(i))...)
		}
	}
	return l
}

// wantApart asks that no two lists of all of these share memory, neither within one nor between two.
func wantApart(t *testing.T, what string, all ...any) {
	t.Helper()
	var l []piece
	for i, x := range all {
		l = append(l, pieces(fmt.Sprint(i), reflect.ValueOf(x))...)
	}
	slices.SortFunc(l, func(a, b piece) int { return cmp.Compare(a.from, b.from) })
	for i := range l[1:] {
		if l[i].to > l[i+1].from {
			t.Errorf("%s: %s and %s share memory", what, l[i].what, l[i+1].what)
		}
	}
}

// roomy is x, each list of which has room to spare, with something in it.
func roomy(x reflect.Value) reflect.Value {
	out := reflect.New(x.Type()).Elem()
	switch x.Kind() {
	case reflect.Struct:
		for i := range x.NumField() {
			out.Field(i).Set(roomy(x.Field(i)))
		}
	case reflect.Slice:
		out.Set(reflect.MakeSlice(x.Type(), x.Len()+3, x.Len()+3))
		for i := range x.Len() {
			out.Index(i).Set(roomy(x.Index(i)))
		}
		if x.Len() > 0 {
			for i := range 3 {
				out.Index(x.Len() + i).Set(roomy(x.Index(0)))
			}
		}
		out.Set(out.Slice(0, x.Len()))
	default:
		out.Set(x)
	}
	return out
}

func roomyPool(p api.Pool) api.Pool { return roomy(reflect.ValueOf(p)).Interface().(api.Pool) }
func roomyMarks(keep []bool) []bool { return roomy(reflect.ValueOf(keep)).Interface().([]bool) }

// whole tells a number of all that x has, the room to spare behind its lists too.
func whole(x any) uint64 {
	sum := fnv.New64a()
	number := func(n uint64) { sum.Write(binary.LittleEndian.AppendUint64(nil, n)) }
	var tell func(x reflect.Value)
	tell = func(x reflect.Value) {
		switch x.Kind() {
		case reflect.Struct:
			for i := range x.NumField() {
				tell(x.Field(i))
			}
		case reflect.Slice:
			number(uint64(x.Len()))
			number(uint64(x.Cap()))
			all := x.Slice(0, x.Cap())
			if all.Type().Elem().Kind() == reflect.Uint8 {
				sum.Write(all.Bytes())
				return
			}
			for i := range all.Len() {
				tell(all.Index(i))
			}
		case reflect.Int:
			number(uint64(x.Int()))
		case reflect.Bool:
			if x.Bool() {
				number(1)
			} else {
				number(0)
			}
		default:
			number(x.Uint())
		}
	}
	tell(reflect.ValueOf(x))
	return sum.Sum64()
}

// pools are such as are opened, and such as are refused, with something in all their lists.
func pools(t *testing.T) map[string]api.Pool {
	all := badPools(t)
	halves := busy(t, 0)
	first, second := slowTwin(halves), slowTwin(halves)
	first.Store.Disk, second.Store.Disk = halfSync(t, halves, 1), halfSync(t, halves, 2)
	for what, p := range map[string]api.Pool{
		"New":          txg.New(),
		"Format":       formatted(t, 1),
		"busy":         busy(t, 1),
		"within":       first,
		"just within":  second,
		"waiting":      waiting(t, 5),
		"Epochs":       epochs(t, 1, mostEpoch),
		"an older one": epochs(t, 5, 7),
		"no room":      committed(t, with(filledUp(t, 4), put(1, 0, 0, 1), put(1, 0, 1, 2)), 1),
	} {
		all[what] = p
	}
	ways()["root"](all["an older one"].Store.Disk, all["an older one"].Gen)
	return all
}

// marksOf are marks for what waits, every other one true.
func marksOf(p api.Pool) []bool {
	keep := make([]bool, len(p.Store.Disk.Waits))
	for i := range keep {
		keep[i] = i%2 == 0
	}
	return keep
}

// All calls only read, the room to spare too; what they answer is new memory.
func TestP192(t *testing.T) {
	opened := 0
	for what, p := range pools(t) {
		want, keep := answers(p), roomyMarks(marksOf(p))
		p = roomyPool(p)
		was, wasKeep := whole(p), whole(keep)
		one, e := mount.Open(p.Store.Disk)
		again, _ := mount.Open(p.Store.Disk)
		crashed, _ := mount.Crash(p, keep)
		once, _ := mount.Crash(p, keep)
		none, _ := mount.Crash(p, append(slices.Clone(keep), true))
		if whole(p) != was || whole(keep) != wasKeep {
			t.Errorf("%s: it is turned", what)
		}
		wantApart(t, what, p, keep, one, again, crashed, once, none)
		if answers(p) != want {
			t.Errorf("%s: an answer hangs on the room to spare", what)
		}
		if e == api.OK {
			opened++
		}
	}
	if opened < 6 {
		t.Errorf("%d are opened", opened)
	}
	a, b := formatted(t, 0), formatted(t, 0)
	wantApart(t, "Format", a, b, formatted(t, 1))
}

// What was answered may be gone on with, and so may what was handed in: neither reaches the other one.
func TestP192Apart(t *testing.T) {
	p := busy(t, 0)
	was := slowTwin(p)
	for range 3 {
		q := wantCrash(t, "the one that was handed in", p, nil, api.OK)
		kept := slowTwin(q)
		r := wantOpen(t, "the one that was answered", q.Store.Disk, api.OK)
		for at := range r.Store.Disk.Blocks {
			clear(r.Store.Disk.Blocks[at])
		}
		for _, l := range [][]byte{r.Keys[2], r.Store.Space} {
			clear(l)
		}
		clear(r.Lines)
		if d := differ(q, kept); d != "" {
			t.Errorf("what was answered: %s", d)
		}
	}
	if d := differ(p, was); d != "" {
		t.Errorf("what was handed in: %s", d)
	}
}

// What is answered beside an error is zero.
func TestErrorsAlone(t *testing.T) {
	refused := map[api.Errno]int{}
	want := func(what string, p api.Pool, e api.Errno) {
		if e != api.OK && !isZero(p) {
			t.Errorf("%s: a pool beside error %d", what, e)
		}
		refused[e]++
	}
	for what, p := range pools(t) {
		q, e := mount.Open(p.Store.Disk)
		want(what, q, e)
		for _, keep := range [][]bool{nil, {true}, marksOf(p), append(marksOf(p), true)} {
			q, e := mount.Crash(p, keep)
			want(what, q, e)
		}
	}
	for _, side := range sides() {
		p, e := mount.Format(side)
		want("Format", p, e)
	}
	for _, e := range []api.Errno{api.OK, api.ErrArg, api.ErrBad, api.ErrFull, api.ErrDisk} {
		if refused[e] < 2 {
			t.Errorf("error %d: %d times", e, refused[e])
		}
	}
}

// answers are all that the calls answer to a pool, as a text.
func answers(p api.Pool) (told string) {
	note := func(p api.Pool, e api.Errno) { told += fmt.Sprint(" ", e, whole(slowTwin(p))) }
	note(mount.Open(p.Store.Disk))
	for _, keep := range [][]bool{nil, marksOf(p), make([]bool, len(p.Store.Disk.Waits)), append(marksOf(p), true)} {
		note(mount.Crash(p, keep))
	}
	for side := -1; side < 3; side++ {
		note(mount.Format(side))
	}
	return told
}

// Whatever it is handed, no call panics, and all end.
func TestR1AllEnd(t *testing.T) {
	long := slowTwinDisk(base(t, 0).Store.Disk)
	long.Blocks = append(long.Blocks, make([][]byte, 1<<16)...)
	many := slowTwinDisk(base(t, 0).Store.Disk)
	many.Waits = make([]api.Write, 1<<16)
	far := slowTwinDisk(base(t, 0).Store.Disk)
	far.Waits = []api.Write{{At: math.MaxInt, Data: text(1)}, {At: math.MinInt, Data: text(1)}}
	for _, d := range []api.Disk{{}, long, many, far, {Blocks: make([][]byte, 256)}} {
		for _, keep := range [][]bool{nil, {true}, make([]bool, 1<<16)} {
			if _, e := mount.Open(d); e != api.ErrBad {
				t.Errorf("Open: %d", e)
			}
			if _, e := mount.Crash(on(base(t, 0), d), keep); e != api.ErrBad {
				t.Errorf("Crash: %d", e)
			}
		}
	}
}

// Disks of bytes that hang on chance, with labels whose sums, and those of what they lead to, are right.
func TestR1AnyBytes(t *testing.T) {
	c, told := chances(3), map[api.Errno]int{}
	p := busy(t, 0)
	for n := range 1500 {
		d := slowTwinDisk(p.Store.Disk)
		for range 1 + c.of(4) {
			at := c.of(130)
			if c.of(2) > 0 {
				at = int(p.Root.At) - c.of(3)
			}
			d.Blocks[at][c.of(1+c.of(256))] ^= byte(1 << c.of(8))
		}
		if n%2 > 0 {
			root := api.Ptr{At: p.Root.At, Birth: p.Gen, Sum: slowSum(d.Blocks[p.Root.At])}
			for slot := range 4 {
				root.At = max(12, root.At-slot*c.of(2))
				root.Sum = slowSum(d.Blocks[root.At])
				d.Blocks[slot] = slowLabel(api.Label{Gen: uint32(4 + slot), Epoch: uint32(1 + c.of(65535)), Root: root})
			}
		}
		want, wantE := plainOpen(d)
		got, e := mount.Open(d)
		if e != wantE || differ(got, want) != "" {
			t.Errorf("disk %d: %d; want %d; %s", n, e, wantE, differ(got, want))
		}
		told[e]++
	}
	if told[api.OK] < 100 || told[api.ErrDisk] < 100 {
		t.Errorf("answers: %v", told)
	}
}

// The same arguments have the same answers, also side by side, and no goroutine is left behind.
func TestR2ArgumentsAlone(t *testing.T) {
	p, bad, full := busy(t, 1), api.Pool{}, epochs(t, 1, mostEpoch)
	began := runtime.NumGoroutine()
	want, wantBad, wantFull := answers(p), answers(bad), answers(full)
	if now := runtime.NumGoroutine(); now > began {
		t.Errorf("%d goroutines; there were %d", now, began)
	}
	var wait sync.WaitGroup
	for range 8 {
		wait.Go(func() {
			for range 5 {
				if answers(p) != want || answers(bad) != wantBad || answers(full) != wantFull {
					t.Error("a call has two answers")
				}
			}
		})
	}
	wait.Wait()
}
