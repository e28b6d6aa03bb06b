package txg_test

import (
	"cmp"
	"encoding/binary"
	"fmt"
	"hash/fnv"
	"reflect"
	"runtime"
	"slices"
	"sync"
	"testing"

	"charterhouse/api"
	"charterhouse/label"
	"charterhouse/txg"
)

// piece is memory that a list has, the room to spare behind it too.
type piece struct {
	from, to uintptr
	what     string
}

// pieces are those of all lists that x has, however deep.
func pieces(what string, x reflect.Value) (l []piece) {
	switch x.Kind() {
	case reflect.Struct:
		for i := range x.NumField() {
			l = append(l, pieces(what+"."+x.Type().Field(i).Name, x.Field(i))...)
		}
	case reflect.Slice:
		if long := uintptr(x.Cap()) * x.Type().Elem().Size(); long > 0 {
			l = append(l, piece{x.Pointer(), x.Pointer() + long, what})
		}
		for i := range x.Len() {
			l = append(l, pieces(what+"[]", x.Index(i))...)
		}
	}
	return l
}

// wantApart asks that no two lists of all of these share memory, neither within one nor between two.
func wantApart(t *testing.T, what string, all ...any) {
	t.Helper()
	var l []piece
	for i, x := range all {
		l = append(l, pieces(fmt.Sprint(i), reflect.ValueOf(x))...)
	}
	slices.SortFunc(l, func(a, b piece) int { return cmp.Compare(a.from, b.from) })
	for i := range l[1:] {
		if l[i].to > l[i+1].from {
			t.Errorf("%s: %s and %s share memory", what, l[i].what, l[i+1].what)
		}
	}
}

// roomy is x, each list of which has room to spare, with something in it.
func roomy(x reflect.Value) reflect.Value {
	out := reflect.New(x.Type()).Elem()
	switch x.Kind() {
	case reflect.Struct:
		for i := range x.NumField() {
			out.Field(i).Set(roomy(x.Field(i)))
		}
	case reflect.Slice:
		out.Set(reflect.MakeSlice(x.Type(), x.Len()+3, x.Len()+3))
		for i := range x.Len() {
			out.Index(i).Set(roomy(x.Index(i)))
		}
		if x.Len() > 0 {
			for i := range 3 {
				out.Index(x.Len() + i).Set(roomy(x.Index(0)))
			}
		}
		out.Set(out.Slice(0, x.Len()))
	default:
		out.Set(x)
	}
	return out
}

func roomyPool(p api.Pool) api.Pool { return roomy(reflect.ValueOf(p)).Interface().(api.Pool) }
func roomyDisk(d api.Disk) api.Disk { return roomy(reflect.ValueOf(d)).Interface().(api.Disk) }

// whole tells a number of all that x has, the room to spare behind its lists too.
func whole(x any) uint64 {
	sum := fnv.New64a()
	number := func(n uint64) { sum.Write(binary.LittleEndian.AppendUint64(nil, n)) }
	var tell func(x reflect.Value)
	tell = func(x reflect.Value) {
		switch x.Kind() {
		case reflect.Struct:
			for i := range x.NumField() {
				tell(x.Field(i))
			}
		case reflect.Slice:
			number(uint64(x.Len()))
			number(uint64(x.Cap()))
			all := x.Slice(0, x.Cap())
			if all.Type().Elem().Kind() == reflect.Uint8 {
				sum.Write(all.Bytes())
				return
			}
			for i := range all.Len() {
				tell(all.Index(i))
			}
		case reflect.Int:
			number(uint64(x.Int()))
		default:
			number(x.Uint())
		}
	}
	tell(reflect.ValueOf(x))
	return sum.Sum64()
}

// pools are some that are synced, and some that are refused, with something in all their lists.
func pools(t *testing.T) map[string]api.Pool {
	x := &plain{p: mixed(t), birth: 5}
	laid := put(5, 5)
	laid.Laid = x.seal(key(1), text(5))
	all := map[string]api.Pool{
		"New":           txg.New(),
		"young":         young(t),
		"snapped":       with(snapped(t), put(2, 0), heading(3, 0)),
		"mixed":         with(x.p, hole(2, 7), put(3, 1), laid, heading(5, 3), heading(9, 0)),
		"all goes":      with(mixed(t), heading(2, 0), heading(3, 0), heading(5, 0)),
		"grown":         grown(),
		"grown, as new": with(grown()),
		"nothing":       {},
	}
	noKey := with(mixed(t), put(2, 0), heading(3, 0))
	noKey.Loaded[0] = nil
	all["no key"] = noKey
	full := with(mixed(t), heading(2, 3), put(3, 1))
	for at := range full.Store.Space {
		full.Store.Space[at] = max(full.Store.Space[at], used)
	}
	all["full"] = full
	last := with(mixed(t), put(2, 0))
	last.Gen = mostTxg
	all["the last number"] = last
	for _, x := range wrong()[:40] {
		p := grown()
		x.of(&p)
		all["wrong: "+x.what] = p
	}
	return all
}

// loads are disks and labels: such as are read, and such as are refused.
func loads(t *testing.T) map[string]func() (api.Disk, api.Label) {
	all := map[string]func() (api.Disk, api.Label){}
	for what, p := range pools(t) {
		q, e := txg.Sync(p)
		if e != api.OK {
			continue
		}
		l, _ := label.Find(q.Store.Disk)
		all[what] = func() (api.Disk, api.Label) { return q.Store.Disk, l[0] }
		all[what+", no label"] = func() (api.Disk, api.Label) { return q.Store.Disk, api.Label{} }
	}
	all["by hand"] = func() (api.Disk, api.Label) {
		y, _ := onShelf()
		d, l := y.laid()
		d.Waits = []api.Write{{At: 5, Data: text(1)}, {At: l.Root.At, Data: d.Blocks[l.Root.At]}}
		return d, l
	}
	all["a list that is turned"] = func() (api.Disk, api.Label) {
		return listed(func(x *shelf) api.Ptr { return turnedPtr(x.dead(every(3))) }).laid()
	}
	all["Kind 9"] = func() (api.Disk, api.Label) {
		y, _ := onShelf()
		y.lines[0][1] = 9
		return y.laid()
	}
	return all
}

// All calls only read, the room to spare too; what they answer is new memory.
func TestP174Pools(t *testing.T) {
	for what, p := range pools(t) {
		p = roomyPool(p)
		other := roomyPool(p)
		was, wasOther := whole(p), whole(other)
		e := txg.Check(p)
		if same := txg.Same(p, other); !same {
			t.Errorf("%s: not the same", what)
		}
		twin := txg.Twin(p)
		synced, _ := txg.Sync(p)
		first, _ := txg.Half(p, 1)
		second, _ := txg.Half(p, 2)
		more, _ := txg.Half(p, 3)
		again, _ := txg.Sync(p)
		if whole(p) != was || whole(other) != wasOther {
			t.Errorf("%s: it is turned", what)
		}
		wantApart(t, what, p, other, twin, synced, first, second, more, again, txg.New(), txg.New())
		if e == api.OK {
			_, want := txg.Sync(slowTwin(p))
			wantSync(t, what+", with room to spare", p, want)
		}
	}
}

func TestP174Load(t *testing.T) {
	for what, of := range loads(t) {
		d, l := of()
		d = roomyDisk(d)
		was := whole(d)
		one, _ := txg.Load(d, l)
		other, _ := txg.Load(d, l)
		if whole(d) != was {
			t.Errorf("%s: the disk is turned", what)
		}
		wantApart(t, what, d, one, other)
	}
}

// A sync of what was answered, and one of what was handed in, do not reach one another.
func TestP174Apart(t *testing.T) {
	p := with(mixed(t), put(2, 0), hole(3, 1))
	q := wantSync(t, "once", p, api.OK)
	was, wasQ := slowTwin(p), slowTwin(q)
	for i := range 5 {
		wantSync(t, fmt.Sprint("the first one, ", i), with(p, put(2, i)), api.OK)
		wantSync(t, fmt.Sprint("the second one, ", i), with(q, put(2, i)), api.OK)
	}
	if d := differ(p, was); d != "" {
		t.Errorf("what was handed in: %s", d)
	}
	if d := differ(q, wasQ); d != "" {
		t.Errorf("what was answered: %s", d)
	}
}

// What is answered beside an error is zero.
func TestErrorsAlone(t *testing.T) {
	for what, p := range pools(t) {
		if q, e := txg.Sync(p); e != api.OK && !isZero(q) {
			t.Errorf("%s: a pool beside error %d", what, e)
		}
		for phase := range 4 {
			if d, e := txg.Half(p, phase); e != api.OK && len(d.Blocks)+len(d.Waits) > 0 {
				t.Errorf("%s: a disk beside error %d", what, e)
			}
		}
	}
	for what, of := range loads(t) {
		d, l := of()
		if q, e := txg.Load(d, l); e != api.OK && !isZero(q) {
			t.Errorf("%s: a pool beside error %d", what, e)
		}
	}
}

// answers are all that the calls answer to a pool, a disk and a label, as a text.
func answers(p api.Pool, d api.Disk, l api.Label) string {
	q, e := txg.Sync(p)
	first, eFirst := txg.Half(p, 1)
	second, eSecond := txg.Half(p, 2)
	third, eThird := txg.Half(p, 3)
	r, eLoad := txg.Load(d, l)
	told := fmt.Sprint(txg.Check(p), e, eFirst, eSecond, eThird, eLoad, txg.Same(p, q), txg.Same(q, p))
	for _, x := range []api.Pool{q, r, txg.Twin(p), txg.New()} {
		told += fmt.Sprint(" ", whole(slowTwin(x)))
	}
	for _, x := range []api.Disk{first, second, third} {
		told += fmt.Sprint(" ", whole(slowTwinDisk(x)))
	}
	return told
}

// Whatever it is handed, no call panics, and all end.
func TestR1AllEnd(t *testing.T) {
	great := api.Pool{
		Store: api.Store{Disk: api.Disk{Blocks: make([][]byte, 1<<16), Waits: make([]api.Write, 1<<16)}, Space: make([]byte, 1<<20)},
		Meta:  make([]int, 1<<16), Lines: make([]api.Line, 1<<16), Keys: make([][]byte, 1<<16), Loaded: make([][]byte, 1<<16), Changes: make([]api.Change, 1<<16),
	}
	d, l := newShelf().d, api.Label{Gen: 1, Epoch: 1, Root: api.Ptr{At: 20, Birth: 1, Sum: slowSum(text(20))}}
	answers(great, great.Store.Disk, l)
	for _, x := range append(wrong(), right()...) {
		p := grown()
		x.of(&p)
		txg.Sync(p)
		txg.Half(p, 1)
		txg.Load(d, l)
		txg.Load(p.Store.Disk, api.Label{Gen: p.Gen, Epoch: p.Store.Epoch, Root: p.Root})
		if txg.Same(p, great) || !txg.Same(p, txg.Twin(p)) {
			t.Errorf("%s: the same as the great one, or not as itself", x.what)
		}
		for _, more := range []func(p *api.Pool){
			func(p *api.Pool) { p.Lines = great.Lines },
			func(p *api.Pool) { p.Changes = great.Changes },
			func(p *api.Pool) { p.Meta = great.Meta },
		} {
			q := p
			more(&q)
			if txg.Check(q) != api.ErrBad {
				t.Errorf("%s, and great: it may be", x.what)
			}
		}
	}
}

// What leads back to itself, or to what was read already, is read but once more.
func TestR1Back(t *testing.T) {
	b := make([]byte, 256)
	x := newShelf()
	p := api.Pool{Keys: make([][]byte, 8), NextId: 2, NextGuid: 1, Lines: heads(1)}
	p.Lines[0].Root = x.put(b)
	d, l := pagesOf(x, p).laid()
	wantLoad(t, "a root of noughts, as the keys", d, l, api.OK)
	// A root whose objects are all one.
	x = newShelf()
	one, row := x.object(1, 0), map[int]api.Ptr{}
	for n := range 16 {
		row[n] = one
	}
	p.Lines[0].Root = x.root(row)
	d, l = pagesOf(x, p).laid()
	wantLoad(t, "one object 16 times", d, l, api.OK)
	// A label whose root is the root of a dataset.
	l.Root = p.Lines[0].Root
	wantLoad(t, "a dataset's root", d, l, api.ErrBad)
}

// The same arguments have the same answers, also side by side, and no goroutine is left behind.
func TestR2ArgumentsAlone(t *testing.T) {
	good := with(mixed(t), put(2, 0), hole(3, 1), heading(5, 0), put(9, 9), heading(9, 2))
	bad := with(good, put(2, 0))
	bad.Loaded[0] = nil
	y, _ := onShelf()
	d, l := y.laid()
	began := runtime.NumGoroutine()
	want, wantBad := answers(good, d, l), answers(bad, d, api.Label{})
	if now := runtime.NumGoroutine(); now > began {
		t.Errorf("%d goroutines; there were %d", now, began)
	}
	if answers(roomyPool(good), roomyDisk(d), l) != want {
		t.Error("an answer hangs on the room to spare")
	}
	var wait sync.WaitGroup
	for range 8 {
		wait.Go(func() {
			for range 5 {
				if answers(good, d, l) != want || answers(bad, d, api.Label{}) != wantBad {
					t.Error("a call has two answers")
				}
			}
		})
	}
	wait.Wait()
}

func TestExamples(t *testing.T) {
	p, e := txg.Sync(txg.New())
	if e != api.OK || p.Gen != 1 || !slices.Equal(p.Meta, []int{12, 13, 14}) {
		t.Errorf("Sync(New): Gen %d, Meta %v, %d", p.Gen, p.Meta, e)
	}
	q, e := txg.Sync(p)
	if e != api.OK || !slices.Equal(q.Meta, []int{15, 16, 17}) {
		t.Errorf("Sync of that: Meta %v, %d", q.Meta, e)
	}
	for _, p := range []api.Pool{p, q} {
		l, e := label.Find(p.Store.Disk)
		if e != api.OK || len(l) == 0 {
			t.Fatal(l, e)
		}
		r, e := txg.Load(p.Store.Disk, l[0])
		if e != api.OK || !txg.Same(r, p) {
			t.Errorf("Load: %d; %s", e, differ(r, p))
		}
	}
	if e := txg.Check(api.Pool{}); e != api.ErrBad {
		t.Errorf("Check(no pool): %d", e)
	}
	// A label whose root has the sum of what stands there: noughts, which are none. Another sum is told ahead of that.
	noughts := api.Ptr{At: 20, Birth: 1, Sum: slowSum(make([]byte, 256))}
	for _, l := range []api.Label{{}, {Gen: 1, Epoch: 1, Root: noughts}} {
		if _, e := txg.Load(txg.New().Store.Disk, l); e != api.ErrBad {
			t.Errorf("Load(New's disk, %v): %d", l, e)
		}
	}
}
