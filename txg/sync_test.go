package txg_test

import (
	"bytes"
	"fmt"
	"math"
	"slices"
	"testing"

	"charterhouse/api"
	"charterhouse/txg"
)

// put is a change of a place by data, hole one to a hole, heading one of an object's head, in dataset 1.
func put(obj, index int) api.Change {
	return api.Change{Set: 1, Obj: obj, Index: index, Data: text(obj*16 + index)}
}

func hole(obj, index int) api.Change {
	return api.Change{Set: 1, Obj: obj, Index: index}
}

func heading(obj int, kind uint8) api.Change {
	return api.Change{Set: 1, Obj: obj, Index: head, Kind: kind}
}

// with is p with these changes.
func with(p api.Pool, changes ...api.Change) api.Pool {
	p = slowTwin(p)
	p.Changes = changes
	return p
}

// young is a pool with dataset 1, synced: object 2 has data at places 0, 7 and 14, object 3 at place 0, object 5 none.
func young(t *testing.T) api.Pool {
	t.Helper()
	p := txg.New()
	p.Keys[0], p.Loaded[0] = wrapped(1), key(1)
	p.Lines = []api.Line{{Id: 1, Kind: isHead, Owner: 1, Guid: 1}}
	p.NextId, p.NextGuid = 2, 3
	p = wantSync(t, "young", p, api.OK)
	return wantSync(t, "young", with(p, put(2, 0), put(2, 7), put(2, 14), heading(2, 1), put(3, 0), heading(3, 1), heading(5, 1)), api.OK)
}

// snapped is young with a snapshot of it.
func snapped(t *testing.T) api.Pool {
	t.Helper()
	p := young(t)
	s := p.Lines[0]
	s.Id, s.Kind, s.Txg, s.Guid = 2, isSnap, p.Gen, 3
	p.Lines[0].Prev, p.Lines[0].Txg = 2, p.Gen
	p.Lines = append(p.Lines, s)
	p.NextId, p.NextGuid = 3, 5
	return wantSync(t, "snapped", p, api.OK)
}

// mixed is snapped, where object 3 has other data at place 1: of what dataset 1 has, some is its snapshot's, and some is not.
func mixed(t *testing.T) api.Pool {
	t.Helper()
	return wantSync(t, "mixed", with(snapped(t), put(3, 1)), api.OK)
}

// below tells the pointers of dataset 1: its root, an object's, and those of its data.
func below(t *testing.T, p api.Pool, n int) (root, obj api.Ptr, data []api.Ptr) {
	t.Helper()
	x := &plain{p: p}
	root = p.Lines[0].Root
	obj = x.ptrs(root)[n]
	return root, obj, x.object(obj).Data
}

// What Sync(New) lays, byte by byte; the sum of noughts was reckoned apart from this program.
func TestP172SyncByHand(t *testing.T) {
	p, e := txg.Sync(txg.New())
	if e != api.OK || p.Gen != 1 || !slices.Equal(p.Meta, []int{12, 13, 14}) {
		t.Fatal(p.Gen, p.Meta, e)
	}
	noughts := []byte{1, 0, 0, 0, 0, 0, 0, 0, 0, 0, 0, 0x06, 0x1b, 0x1d, 0x64}
	root := slices.Concat([]byte{82, 1, 0, 1, 0, 0, 0, 0}, make([]byte, 8), []byte{12}, noughts, make([]byte, 48), []byte{13}, noughts)
	root = append(root, make([]byte, 160)...)
	blocks := p.Store.Disk.Blocks
	if !bytes.Equal(blocks[14], root) {
		t.Errorf("the root's block: %v", blocks[14])
	}
	sum := slowBytes(slowSum(root), 4)
	last := slices.Concat([]byte{67, 1, 0, 0, 0, 1, 0, 0, 0, 14, 1, 0, 0, 0, 0, 0, 0, 0, 0, 0, 0}, sum)
	last = append(last, slowBytes(slowSum(last), 4)...)
	if !bytes.Equal(blocks[1], append(last, make([]byte, 227)...)) {
		t.Errorf("the label: %v", blocks[1])
	}
	for at, b := range blocks {
		if at != 1 && at != 14 && !bytes.Equal(b, make([]byte, 256)) {
			t.Errorf("block %d: %v", at, b)
		}
	}
	if p.Root != (api.Ptr{At: 14, Birth: 1, Sum: slowSum(root)}) {
		t.Errorf("Root: %v", p.Root)
	}
}

// What is laid of lines and keys, byte by byte, where each number has a byte of its own.
func TestP172LinesByHand(t *testing.T) {
	p := txg.New()
	p.Gen, p.Root = 0x0a0b0b, api.Ptr{At: 99, Birth: 1}
	p.Store.Space[99] = used
	p.Lines = []api.Line{
		{Id: 3, Kind: isSnap, Owner: 200, Txg: 0x030200, Guid: 1, Key: 5},
		{Id: 200, Kind: isHead, Owner: 200, Prev: 3, Txg: 0x030201, Guid: 0x07060504, Key: 5, Root: api.Ptr{At: 101, Birth: 0x0c0b0a, Iv: 0x100f0e0d, Tag: 0x14131211, Sum: 0x18171615}, Dead: []api.Ptr{{At: 102, Birth: 1}}},
	}
	p.Keys[2], p.Keys[7] = wrapped(1), wrapped(2)
	p.NextId, p.NextGuid = 256, 0x1c1b1a19
	q, e := txg.Sync(p)
	if e != api.OK || !slices.Equal(q.Meta, []int{12, 13, 14, 15, 16}) {
		t.Fatal(q.Meta, e)
	}
	at := func(block int) []byte {
		return slices.Concat([]byte{byte(block), 0x0c, 0x0b, 0x0a, 0, 0, 0, 0, 0, 0, 0, 0}, slowBytes(slowSum(q.Store.Disk.Blocks[block]), 4))
	}
	blocks := [][]byte{
		append([]byte{102, 1}, make([]byte, 254)...),
		append(at(12), make([]byte, 240)...),
		slices.Concat(
			[]byte{3, 2, 200, 0, 0x00, 0x02, 0x03, 1, 0, 0, 0, 5}, make([]byte, 36),
			[]byte{200, 1, 200, 3, 1, 2, 3, 4, 5, 6, 7, 5, 101, 10, 11, 12, 13, 14, 15, 16, 17, 18, 19, 20, 21, 22, 23, 24}, at(13), make([]byte, 4+160)),
		slices.Concat(make([]byte, 48), wrapped(1), make([]byte, 96), wrapped(2), make([]byte, 64)),
		slices.Concat([]byte{82, 0, 1, 0x19, 0x1a, 0x1b, 0x1c, 2}, make([]byte, 8), at(14), make([]byte, 48), at(15), make([]byte, 160)),
	}
	for i, b := range blocks {
		if got := q.Store.Disk.Blocks[12+i]; !bytes.Equal(got, b) {
			t.Errorf("block %d: %v; want %v", 12+i, got, b)
		}
	}
	if last := q.Store.Disk.Blocks[0]; !bytes.Equal(last[:10], []byte{67, 0x0c, 0x0b, 0x0a, 0, 1, 0, 0, 0, 16}) {
		t.Errorf("the label: %v", last)
	}
}

// As many blocks of lines as each number of lines needs, with dead lists of all lengths.
func TestP172SyncLines(t *testing.T) {
	for many := range 17 {
		p := txg.New()
		p.Lines, p.NextId = heads(many), many+1
		for i := range p.Lines {
			p.Lines[i].Guid, p.Lines[i].Txg, p.Lines[i].Key = uint32(i), uint32(many*i), i%8
			p.Lines[i].Dead = every(i * many % 20)
		}
		p.NextGuid = uint32(many + 1)
		q := wantSync(t, fmt.Sprint(many, " lines"), p, api.OK)
		own := 0
		for _, l := range p.Lines {
			if d := len(l.Dead); d > 0 {
				own += (d+15)/16 + 1
			}
		}
		if want := own + max(1, (many+4)/5) + 2; len(q.Meta) != want {
			t.Errorf("%d lines: %d blocks; want %d", many, len(q.Meta), want)
		}
	}
	for _, many := range []int{0, 1, 15, 16, 17, 32, 33, 239, 240} {
		p := txg.New()
		p.Lines, p.NextId, p.NextGuid = heads(1), 2, 1
		p.Lines[0].Dead = every(many)
		wantSync(t, fmt.Sprint(many, " dead"), p, api.OK)
	}
}

// Each kind of change, beside the plain reading, on a dataset without a snapshot, and on one with one.
func TestP172SyncChanges(t *testing.T) {
	for what, p := range map[string]api.Pool{"young": young(t), "snapped": snapped(t), "mixed": mixed(t)} {
		for n, changes := range [][]api.Change{
			nil,
			{put(2, 0)}, {put(2, 1)}, {hole(2, 0)}, {hole(2, 1)}, {heading(2, 7)}, {heading(2, 0)},
			{hole(2, 0), hole(2, 7), hole(2, 14), heading(2, 0)},
			{hole(2, 0), put(2, 3), heading(2, 0)},
			{put(0, 0)}, {hole(0, 0)}, {heading(0, 0)}, {heading(0, 1)}, {put(0, 5), heading(0, 2)}, {put(0, 5), heading(0, 0)},
			{put(1, 0), put(15, 14), heading(15, 3)},
			{put(2, 0), put(2, 7), put(2, 14), put(3, 0), put(5, 0)},
			{heading(2, 0), heading(3, 0), heading(5, 0)},
			{heading(2, 0), heading(3, 0), heading(5, 0), put(7, 7)},
			{heading(5, 0)},
			{put(5, 0), put(5, 1), put(5, 2), put(5, 3), put(5, 4), put(5, 5), put(5, 6), put(5, 7), put(5, 8), put(5, 9), put(5, 10), put(5, 11), put(5, 12), put(5, 13), put(5, 14)},
		} {
			q := wantSync(t, fmt.Sprint(what, ", changes ", n), with(p, changes...), api.OK)
			// And once more, on what that left.
			wantSync(t, fmt.Sprint(what, ", changes ", n, " again"), with(q, changes...), api.OK)
		}
	}
}

// All objects, with all their data, are laid, and go again.
func TestP172SyncAll(t *testing.T) {
	p := young(t)
	var all, none []api.Change
	for n := range 13 {
		for i := range 15 {
			all = append(all, put(n, i))
		}
		all = append(all, heading(n, 1))
		none = append(none, heading(n, 0))
	}
	p = wantSync(t, "all", with(p, all...), api.OK)
	if len(p.Lines[0].Dead) > 0 || count(p, used) != 12+13*15+13+1+len(p.Meta) {
		t.Errorf("%d are used", count(p, used))
	}
	// What is given up is free behind this sync alone.
	wantSync(t, "all again", with(p, all...), api.ErrFull)
	p = wantSync(t, "none", with(p, none...), api.OK)
	if p.Lines[0].Root != (api.Ptr{}) || count(p, used) != 12+len(p.Meta) {
		t.Errorf("%v, %d are used", p.Lines[0].Root, count(p, used))
	}
}

// A change of one dataset, behind and ahead of another one, leaves that as it is.
func TestP172SyncOthers(t *testing.T) {
	p := young(t)
	p.Keys[1], p.Loaded[1] = wrapped(2), key(2)
	p.Lines = append(p.Lines, api.Line{Id: 7, Kind: isHead, Owner: 7, Guid: 9, Key: 1})
	p.NextId, p.NextGuid = 8, 10
	other := []api.Change{{Set: 7, Obj: 2, Index: 0, Data: text(77)}, {Set: 7, Obj: 2, Index: head, Kind: 2}}
	q := wantSync(t, "the other one", with(p, other...), api.OK)
	if q.Lines[0].Root != p.Lines[0].Root {
		t.Error("the first one has another root")
	}
	r := wantSync(t, "the first one", with(q, put(2, 0)), api.OK)
	if r.Lines[1].Root != q.Lines[1].Root || r.Lines[0].Root == q.Lines[0].Root {
		t.Error("the other one has another root")
	}
	wantSync(t, "both", with(r, append([]api.Change{put(2, 0), heading(2, 0)}, other...)...), api.OK)
}

// Data that was laid ahead stands as it is, and needs no key; other data does, where it is reached.
func TestP172SyncLaid(t *testing.T) {
	x := &plain{p: young(t), birth: 3}
	laid := x.seal(key(1), text(9))
	p := x.p
	both, alone := put(2, 0), hole(2, 0)
	both.Laid, alone.Laid = laid, laid
	for what, loaded := range map[string][]byte{"loaded": key(1), "not loaded": nil, "empty": {}} {
		p.Loaded[0] = loaded
		want := api.OK
		if len(loaded) == 0 {
			want = api.ErrKey
		}
		for n, c := range []api.Change{both, alone} {
			q := wantSync(t, fmt.Sprint(what, ", laid ", n), with(p, c), api.OK)
			if _, _, data := below(t, q, 2); data[0] != laid {
				t.Errorf("%s, laid %d: %v; want %v", what, n, data[0], laid)
			}
		}
		wantSync(t, what+", laid, and it goes", with(p, both, heading(2, 0)), api.OK)
		wantSync(t, what+", data", with(p, put(2, 0)), want)
		wantSync(t, what+", data of none", with(p, put(9, 0)), want)
		wantSync(t, what+", data that goes", with(p, put(2, 0), heading(2, 0)), want)
		wantSync(t, what+", holes", with(p, hole(2, 0), hole(9, 0)), api.OK)
		wantSync(t, what+", a head", with(p, heading(2, 5)), api.OK)
		wantSync(t, what+", no changes", with(p), api.OK)
	}
}

// Which key seals is the line's.
func TestP172SyncKey(t *testing.T) {
	for k := range 8 {
		p := txg.New()
		p.Lines, p.NextId, p.NextGuid = heads(1), 2, 1
		p.Lines[0].Key = k
		for i := range 8 {
			p.Loaded[i] = key(i)
		}
		q := wantSync(t, fmt.Sprint("key ", k), with(p, put(1, 1), heading(1, 1)), api.OK)
		_, _, data := below(t, q, 1)
		made := q.Store.Disk.Blocks[data[1].At]
		if !bytes.Equal(slowCipher(key(k), data[1].Iv, made), text(17)) || data[1].Iv != 65537 {
			t.Errorf("key %d did not seal", k)
		}
		p.Loaded[k] = nil
		wantSync(t, fmt.Sprint("all but key ", k), with(p, put(1, 1), heading(1, 1)), api.ErrKey)
	}
}

func TestP172Check(t *testing.T) {
	for _, x := range append(wrong(), turn{"no pool", func(p *api.Pool) { *p = api.Pool{} }}) {
		p := grown()
		x.of(&p)
		if q, e := txg.Sync(p); e != api.ErrBad || !isZero(q) {
			t.Errorf("%s: Sync: %d, a pool: %t", x.what, e, !isZero(q))
		}
		for _, phase := range []int{1, 2, 0, 3} {
			if d, e := txg.Half(p, phase); e != api.ErrBad || len(d.Blocks)+len(d.Waits) > 0 {
				t.Errorf("%s: Half(.., %d): %d", x.what, phase, e)
			}
		}
	}
}

// That no number is left is told behind what may not be, ahead of all steps.
func TestP172MaxTxg(t *testing.T) {
	p := mixed(t)
	p.Gen = mostTxg
	wantSync(t, "no changes", with(p), api.ErrFull)
	wantSync(t, "changes", with(p, put(2, 0)), api.ErrFull)
	p.Loaded[0] = nil
	wantSync(t, "no key", with(p, put(2, 0)), api.ErrFull)
	p.Logged = 9
	wantSync(t, "too many are logged", with(p), api.ErrBad)
	p = mixed(t)
	p.Gen = mostTxg - 1
	q := wantSync(t, "the last number", with(p, put(2, 0)), api.OK)
	wantSync(t, "none is left", q, api.ErrFull)
}

// Labels go round, and Logged is 0 behind each sync.
func TestP172Again(t *testing.T) {
	p := young(t)
	for i := range 9 {
		p.Logged = i
		p = wantSync(t, fmt.Sprint("again ", i), p, api.OK)
		if p.Logged != 0 || p.Gen != uint32(3+i) {
			t.Errorf("again %d: Gen %d, Logged %d", i, p.Gen, p.Logged)
		}
	}
}

func TestP172Half(t *testing.T) {
	p := with(mixed(t), put(2, 0), heading(3, 0))
	phases := []int{0, 3, -1, 4, 255, 1 << 32, 1<<32 + 1, math.MaxInt, math.MinInt}
	for _, phase := range phases {
		if d, e := txg.Half(p, phase); e != api.ErrArg || len(d.Blocks)+len(d.Waits) > 0 {
			t.Errorf("Half(.., %d): %d", phase, e)
		}
	}
	// Sync's error comes first, whichever step it is of.
	p.Loaded[0] = nil
	for _, phase := range append(phases, 1, 2) {
		if _, e := txg.Half(p, phase); e != api.ErrKey {
			t.Errorf("Half(no key, %d): %d", phase, e)
		}
	}
	p.Gen = mostTxg
	for _, phase := range append(phases, 1, 2) {
		if _, e := txg.Half(p, phase); e != api.ErrFull {
			t.Errorf("Half(no number, %d): %d", phase, e)
		}
	}
}

// What is read is asked for its sum, and for what it is: the root, and the objects that are changed.
func TestP172Turned(t *testing.T) {
	p := mixed(t)
	root, two, data := below(t, p, 2)
	_, three, _ := below(t, p, 3)
	changes := []api.Change{put(2, 0), hole(2, 7)}
	for _, byt := range []int{0, 1, 100, 255} {
		turned := func(at int) api.Pool {
			q := with(p, changes...)
			q.Store.Disk.Blocks[at][byt] ^= 4
			return q
		}
		wantSync(t, "the root is turned", turned(root.At), api.ErrSum)
		wantSync(t, "the object is turned", turned(two.At), api.ErrSum)
		wantSync(t, "another object is turned", turned(three.At), api.OK)
		wantSync(t, "data is turned", turned(data[0].At), api.OK)
		wantSync(t, "other data is turned", turned(data[14].At), api.OK)
		wantSync(t, "an own block is turned", turned(p.Root.At), api.OK)
		q := turned(root.At)
		q.Changes = nil
		wantSync(t, "nothing is changed", q, api.OK)
	}
	q := with(p, changes...)
	q.Store.Disk.Waits = []api.Write{{At: two.At, Data: text(1)}}
	wantSync(t, "another object waits", q, api.ErrSum)
}

// rooted is young, whose dataset has another block as its root, or as its object 2.
func rooted(t *testing.T, b []byte) api.Pool {
	p := young(t)
	p.Store.Disk.Blocks[p.Lines[0].Root.At] = b
	p.Lines[0].Root.Sum = slowSum(b)
	return p
}

func TestP172NoRow(t *testing.T) {
	for what, b := range map[string][]byte{
		"a text":         text(1),
		"a fixed block":  slowRow([]api.Ptr{{At: 11, Birth: 1}}),
		"without birth":  slowRow([]api.Ptr{none, none, {At: 20}}),
		"no block":       slowRow([]api.Ptr{{Birth: 1}}),
		"the last place": slowRow(append(make([]api.Ptr, 15), api.Ptr{Sum: 1})),
	} {
		wantSync(t, "the root is no row: "+what, with(rooted(t, b), put(2, 0)), api.ErrBad)
	}
	p := young(t)
	_, two, _ := below(t, p, 2)
	row := (&plain{p: p}).ptrs(p.Lines[0].Root)
	for what, b := range map[string][]byte{
		"noughts":      make([]byte, 256),
		"Kind 8":       slowObject(api.Object{Kind: 8, Data: make([]api.Ptr, 15)}),
		"Kind 0":       slowObject(api.Object{Links: 1, Data: make([]api.Ptr, 15)}),
		"Size":         slowObject(api.Object{Kind: 1, Size: 3841, Data: make([]api.Ptr, 15)}),
		"a wrong data": slowObject(api.Object{Kind: 1, Data: append(make([]api.Ptr, 14), api.Ptr{At: 11, Birth: 1})}),
		"no nought":    append([]byte{1, 0, 0, 0, 1}, make([]byte, 251)...),
	} {
		row[2].Sum = slowSum(b)
		q := rooted(t, slowRow(row))
		q.Store.Disk.Blocks[two.At] = b
		wantSync(t, "object 2 is none: "+what, with(q, put(2, 0)), api.ErrBad)
		wantSync(t, "object 2 is none, and stays: "+what, with(q, put(3, 0)), api.OK)
	}
}

// Nothing that is given up of a line may be free, given up, or in its dead list already: of all pointers, old and young.
func TestP172GivenUp(t *testing.T) {
	for what, p := range map[string]api.Pool{"young": young(t), "snapped": snapped(t), "mixed": mixed(t)} {
		root, two, data2 := below(t, p, 2)
		_, three, data3 := below(t, p, 3)
		for _, x := range []struct {
			what    string
			p       api.Ptr
			changes []api.Change
		}{
			{"a place", data2[0], []api.Change{put(2, 0)}},
			{"a place that is a hole", data2[7], []api.Change{hole(2, 7)}},
			{"another place", data3[0], []api.Change{put(3, 0)}},
			{"an object", two, []api.Change{heading(2, 3)}},
			{"another object", three, []api.Change{hole(3, 5)}},
			{"an object that goes", three, []api.Change{heading(3, 0)}},
			{"data of an object that goes", data2[14], []api.Change{heading(2, 0)}},
			{"the root", root, []api.Change{hole(9, 1)}},
			{"the root of nothing", root, []api.Change{heading(2, 0), heading(3, 0), heading(5, 0)}},
			{"a place that is young, or none", data3[1], []api.Change{put(3, 1)}},
		} {
			if x.p == none {
				continue
			}
			wantSync(t, what+", "+x.what, with(p, x.changes...), api.OK)
			for _, mark := range []byte{unused, later} {
				q := with(p, x.changes...)
				q.Store.Space[x.p.At] = mark
				wantSync(t, fmt.Sprint(what, ", ", x.what, " is ", mark), q, api.ErrBad)
				q.Store.Disk.Blocks[root.At][9] ^= 1
				wantSync(t, fmt.Sprint(what, ", ", x.what, " is ", mark, ", the root turned"), q, api.ErrSum)
			}
			q := with(p, x.changes...)
			q.Lines[0].Dead = withPtr(q.Lines[0].Dead, api.Ptr{At: x.p.At, Birth: 1, Sum: 3})
			wantSync(t, what+", "+x.what+" is in Dead", q, api.ErrBad)
			q = with(p)
			q.Lines[0].Dead = withPtr(q.Lines[0].Dead, api.Ptr{At: x.p.At, Birth: 1, Sum: 3})
			wantSync(t, what+", "+x.what+" is in Dead, nothing is changed", q, api.OK)
		}
	}
}

// withPtr is a dead list with one more, unless a pointer of its block is there.
func withPtr(l []api.Ptr, p api.Ptr) []api.Ptr {
	i, there := slices.BinarySearchFunc(l, p, func(a, b api.Ptr) int { return a.At - b.At })
	if there {
		return l
	}
	return slices.Insert(slices.Clone(l), i, p)
}

// What two lines give up, one behind the other, is no more there for the second one.
func TestP172GivenUpTwice(t *testing.T) {
	p := young(t)
	p.Lines = append(p.Lines, api.Line{Id: 2, Kind: isHead, Owner: 2, Root: p.Lines[0].Root})
	p.NextId = 3
	second := func(c api.Change) api.Change {
		c.Set = 2
		return c
	}
	wantSync(t, "both", with(p, put(2, 0), second(put(2, 0))), api.ErrBad)
	wantSync(t, "both, another place", with(p, put(2, 0), second(put(3, 3))), api.ErrBad)
	wantSync(t, "one", with(p, second(put(2, 0))), api.OK)
	c := hole(2, 3)
	_, _, data := below(t, p, 2)
	c.Laid = data[0]
	wantSync(t, "one block twice, both go", with(p, hole(2, 0), c, heading(2, 0)), api.ErrBad)
}

// What is born up to the Txg of Prev is put into Dead; all else is free behind the sync.
func TestP172Since(t *testing.T) {
	p := snapped(t)
	root, two, data := below(t, p, 2)
	for txgOf := range uint32(5) {
		q := with(p, hole(2, 0))
		q.Lines[1].Txg = txgOf
		q.Lines[0].Txg = 4
		r := wantSync(t, fmt.Sprint("Prev's Txg ", txgOf), q, api.OK)
		isOld := txgOf >= 2
		for _, x := range []api.Ptr{root, two, data[0]} {
			if x.Birth != 2 || slices.Contains(r.Lines[0].Dead, x) != isOld || (r.Store.Space[x.At] == used) != isOld {
				t.Errorf("Prev's Txg %d: %v in Dead: %t", txgOf, x, slices.Contains(r.Lines[0].Dead, x))
			}
		}
	}
	// The line's own Txg counts for nothing.
	q := with(p, hole(2, 0))
	q.Lines[0].Txg, q.Lines[0].Prev = mostTxg, 0
	if r := wantSync(t, "no Prev", q, api.OK); len(r.Lines[0].Dead) > 0 {
		t.Errorf("no Prev: %v", r.Lines[0].Dead)
	}
	// Nor does it count that what is laid in this sync can't be the snapshot's.
	q = with(p, put(9, 9), heading(9, 0))
	q.Lines[1].Txg, q.Lines[0].Txg = mostTxg, mostTxg
	if r := wantSync(t, "a Prev that is to come", q, api.OK); len(r.Lines[0].Dead) != 2 {
		t.Errorf("a Prev that is to come: %v", r.Lines[0].Dead)
	}
}

// A dead list may come to have 240 pointers, and no more.
func TestP172DeadFull(t *testing.T) {
	p := snapped(t)
	root, two, data := below(t, p, 2)
	for _, many := range []int{236, 237, 238, 239, 240} {
		q := with(p, hole(2, 0))
		q.Lines[0].Dead = nil
		for at := 255; len(q.Lines[0].Dead) < many; at-- {
			if at != root.At && at != two.At && at != data[0].At {
				q.Lines[0].Dead = append(q.Lines[0].Dead, api.Ptr{At: at, Birth: 1})
			}
		}
		slices.Reverse(q.Lines[0].Dead)
		want := api.OK
		if many+3 > mostDead {
			want = api.ErrFull
		}
		wantSync(t, fmt.Sprint(many, " and 3"), q, want)
		if many < 240 {
			continue
		}
		// What is no more used is told ahead of it, if it is reached.
		goes := with(q, heading(2, 0))
		goes.Store.Space[two.At] = later
		wantSync(t, "full, and the object that goes is not used", goes, api.ErrBad)
		goes.Store.Space[two.At], goes.Store.Space[data[0].At] = used, later
		wantSync(t, "full, and data that goes is not used", goes, api.ErrFull)
		q.Store.Space[data[0].At] = later
		wantSync(t, "full, and not used", q, api.ErrBad)
	}
}

// A block of Meta that a line gave up is not Used any more.
func TestP172Meta(t *testing.T) {
	p := young(t)
	root, two, data := below(t, p, 2)
	for what, x := range map[string]api.Ptr{"root": root, "object": two, "data": data[0]} {
		q := with(p, hole(2, 0))
		q.Meta = append(slices.Clone(p.Meta), x.At)
		slices.Sort(q.Meta)
		wantSync(t, what, q, api.ErrNone)
		q.Changes = nil
		wantSync(t, what+", nothing is changed", q, api.OK)
		// A line's error comes ahead of it.
		q.Changes = []api.Change{hole(2, 0), put(2, 1)}
		q.Loaded[0] = nil
		wantSync(t, what+", no key", q, api.ErrKey)
	}
	q := with(p, hole(2, 0))
	q.Meta = nil
	if r := wantSync(t, "no Meta", q, api.OK); count(r, used) != 12+7+len(p.Meta)+len(r.Meta) {
		t.Errorf("no Meta: %d are used", count(r, used))
	}
}

// The first error is told, in the order of the steps.
func TestP172Order(t *testing.T) {
	p := mixed(t)
	root, two, data := below(t, p, 2)
	_, three, _ := below(t, p, 3)
	spoil := func(what string, want api.Errno, changes []api.Change, turns ...func(p *api.Pool)) {
		t.Helper()
		q := with(p, changes...)
		for _, turn := range turns {
			turn(&q)
		}
		wantSync(t, what, q, want)
	}
	noKey := func(p *api.Pool) { p.Loaded[0] = nil }
	noIv := func(p *api.Pool) { p.Store.Count = mostCount }
	noRoom := func(p *api.Pool) {
		for at, mark := range p.Store.Space {
			if mark == unused {
				p.Store.Space[at] = used
			}
		}
	}
	free := func(x api.Ptr) func(p *api.Pool) {
		return func(p *api.Pool) { p.Store.Space[x.At] = later }
	}
	turn := func(x api.Ptr) func(p *api.Pool) {
		return func(p *api.Pool) { p.Store.Disk.Blocks[x.At][77] ^= 1 }
	}
	one := []api.Change{put(2, 0)}
	both := []api.Change{put(2, 0), put(3, 0)}
	spoil("no key, no number, no room", api.ErrKey, one, noKey, noIv, noRoom)
	spoil("no number, no room", api.ErrIv, one, noIv, noRoom)
	spoil("no room", api.ErrFull, one, noRoom)
	spoil("no number, but holes", api.OK, []api.Change{hole(2, 0)}, noIv)
	spoil("not used, no key", api.ErrBad, one, noKey, free(data[0]))
	spoil("the object is not used, no key", api.ErrKey, one, noKey, free(two))
	spoil("the root is not used, no key", api.ErrKey, one, noKey, free(root))
	spoil("the object is turned, no key", api.ErrSum, one, noKey, turn(two))
	spoil("the object is turned, and not used", api.ErrSum, one, free(two), turn(two), free(data[0]))
	spoil("the second object is turned, no key", api.ErrKey, both, noKey, turn(three))
	spoil("the second object is turned", api.ErrSum, both, turn(three))
	spoil("the second object is turned, the first one not used", api.ErrBad, both, turn(three), free(two))
	spoil("the second object is turned, the root not used", api.ErrSum, both, turn(three), free(root))
	spoil("a head is turned, behind no room", api.ErrFull, []api.Change{heading(2, 1), put(3, 0)}, turn(three), noRoom)
	spoil("no room, the root not used", api.ErrFull, one, noRoom, free(root))
	spoil("no room where all goes", api.ErrFull, []api.Change{heading(2, 0), heading(3, 0), heading(5, 0)}, noRoom)
	spoil("not used where all goes, no room", api.ErrBad, []api.Change{heading(2, 0), heading(3, 0), heading(5, 0)}, noRoom, free(root))
	spoil("data that goes is not used, nor is its object", api.ErrBad, []api.Change{heading(2, 0)}, free(data[14]))
	spoil("a place is not used, and would be sealed by no number", api.ErrBad, one, noIv, free(data[0]))
	spoil("the second place is not used, no number", api.ErrIv, []api.Change{put(2, 0), put(2, 7)}, noIv, free(data[7]))
	spoil("the first place is not used, no number", api.ErrBad, []api.Change{put(2, 0), put(2, 7)}, noIv, free(data[0]))
}

// As many numbers as are left are given out.
func TestP172Iv(t *testing.T) {
	p := young(t)
	for left := range uint32(4) {
		q := with(p, put(2, 0), put(2, 7), put(3, 3))
		q.Store.Count = mostCount - left
		want := api.OK
		if left < 3 {
			want = api.ErrIv
		}
		if r := wantSync(t, fmt.Sprint(left, " numbers"), q, want); want == api.OK && r.Store.Count != mostCount {
			t.Errorf("Count: %d", r.Store.Count)
		}
	}
}

// Of a pool without lines the next Id may be any Id, or 256; another number is none, and the pool may not be.
func TestP172NextId(t *testing.T) {
	for _, n := range []int{1, 2, 255, 256} {
		p := txg.New()
		p.NextId = n
		wantCheck(t, fmt.Sprint("NextId ", n), p, api.OK)
		wantSync(t, fmt.Sprint("NextId ", n), p, api.OK)
	}
	for _, n := range []int{0, -1, -5, -255, -256, -65535, -65536, math.MinInt, 257, 65535, 65536, 65537, math.MaxInt} {
		p := txg.New()
		p.NextId = n
		wantCheck(t, fmt.Sprint("NextId ", n), p, api.ErrBad)
		wantSync(t, fmt.Sprint("NextId ", n), p, api.ErrBad)
		// It is told ahead of what is wrong with the phase, and with Gen.
		p.Gen, p.Root = mostTxg, api.Ptr{At: 12, Birth: 1}
		wantSync(t, fmt.Sprint("NextId ", n, ", the greatest Gen"), p, api.ErrBad)
		for _, phase := range []int{0, 1, 2, 3} {
			if _, e := txg.Half(p, phase); e != api.ErrBad {
				t.Errorf("Half, NextId %d, phase %d: %d", n, phase, e)
			}
		}
	}
}
