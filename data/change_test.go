package data_test

import (
	"fmt"
	"math"
	"slices"
	"testing"

	"charterhouse/api"
	"charterhouse/data"
)

// Texts of all lengths, noughts behind them; of none a hole; longer ones are refused.
func TestP204Texts(t *testing.T) {
	p := busy(t)
	for n := range 300 {
		b := slices.Concat(text(n), text(n+1))[:n]
		if n > 256 {
			wantEdit(t, "a long text", p, one, 0, 0, b, api.ErrText)
			continue
		}
		q := wantEdit(t, "a text", p, one, 0, 0, b, api.OK)
		want := append(slices.Clone(b), make([]byte, 256-n)...)
		wantRead(t, fmt.Sprint(n, " bytes"), q, one, 0, 0, want, api.OK)
		c := changeOf(q, one, 0, 0)
		if c.Laid != none || n == 0 && len(c.Data) > 0 || n > 0 && string(c.Data) != string(want) {
			t.Errorf("%d bytes: %v", n, c)
		}
	}
	for _, n := range []int{512, 1 << 16} {
		wantEdit(t, "a long text", p, one, 0, 0, make([]byte, n), api.ErrText)
	}
	q := wantEdit(t, "noughts", p, one, 0, 0, noughts(), api.OK)
	if c := changeOf(q, one, 0, 0); len(c.Data) != 256 {
		t.Errorf("noughts: %v", c)
	}
	wantEdit(t, "no bytes, but a list", p, one, 0, 0, []byte{}, api.OK)
}

// Each place of each object, of each dataset: the changes rise, and all others stay.
func TestP204Places(t *testing.T) {
	p := loaded(busy(t), 0, 2, 5, 6)
	for _, id := range []int{one, copied, other, locked, bare} {
		for obj := range 16 {
			for index := range 15 {
				if kinds()[id][obj] == 0 {
					wantEdit(t, "no object", p, id, obj, index, text(70), api.ErrNone)
					continue
				}
				was := changeOf(p, id, obj, index)
				q := wantEdit(t, "busy", p, id, obj, index, text(70), api.OK)
				wantRead(t, "busy", q, id, obj, index, text(70), api.OK)
				many := len(p.Changes) + 1
				if was != nil {
					many--
				}
				if len(q.Changes) != many || q.Gen != p.Gen || q.Logged != p.Logged || q.Store.Count != p.Store.Count {
					t.Errorf("Edit(%d, %d, %d): %d changes; want %d; Gen %d", id, obj, index, len(q.Changes), many, q.Gen)
				}
				gone := none
				if was != nil {
					gone = was.Laid
				}
				wantGone(t, fmt.Sprint("Edit(", id, ", ", obj, ", ", index, ")"), p, q, gone)
			}
		}
	}
}

// wantGone asks that just these blocks, of all that were used, are given up, and that nothing else of the store is another one.
func wantGone(t *testing.T, what string, p, q api.Pool, gone ...api.Ptr) {
	t.Helper()
	for at, mark := range p.Store.Space {
		want := mark
		if at >= firstBlock && slices.ContainsFunc(gone, func(p api.Ptr) bool { return p.At == at }) {
			want = later
		}
		if q.Store.Space[at] != want {
			t.Errorf("%s: block %d: %d; want %d", what, at, q.Store.Space[at], want)
		}
	}
	if !sameDisk(p.Store.Disk, q.Store.Disk) {
		t.Errorf("%s: another disk", what)
	}
}

// What was laid for a change that goes is given up once; what the Root has there is not.
func TestP204Gives(t *testing.T) {
	p := busy(t)
	for _, index := range []int{2, 3} {
		was := changeOf(p, one, 0, index).Laid
		for _, b := range [][]byte{nil, text(1)} {
			q := wantEdit(t, "busy", p, one, 0, index, b, api.OK)
			wantGone(t, fmt.Sprint("place ", index), p, q, was)
			r := wantEdit(t, "once more", q, one, 0, index, text(2), api.OK)
			wantGone(t, "once more", q, r)
			s := synced(t, r)
			if s.Store.Space[was.At] == later {
				t.Errorf("place %d: block %d is given up still", index, was.At)
			}
		}
	}
	for _, mark := range []byte{unused, later} {
		q := slowTwin(p)
		q.Store.Space[changeOf(p, one, 0, 2).Laid.At] = mark
		wantEdit(t, fmt.Sprint("a block of mark ", mark), q, one, 0, 2, nil, api.ErrNone)
		wantEdit(t, fmt.Sprint("a block of mark ", mark), q, one, 0, 2, text(1), api.ErrNone)
		wantEdit(t, "beside", q, one, 0, 3, text(1), api.OK)
	}
	// Of two that were laid at one block, the second one that goes has nothing to give up.
	q := and(p, laid(one, 0, 8, changeOf(p, one, 0, 2).Laid))
	q = wantEdit(t, "the first one", q, one, 0, 8, nil, api.OK)
	wantEdit(t, "the second one", q, one, 0, 2, nil, api.ErrNone)
}

// What is refused, in order: the line, a snapshot, numbers, the text, the key, the object, and what goes.
func TestP204Order(t *testing.T) {
	p := busy(t)
	stuck := slowTwin(p)
	stuck.Store.Space[changeOf(p, one, 0, 2).Laid.At] = unused
	for _, b := range [][]byte{nil, text(1), make([]byte, 257)} {
		for _, obj := range append(wrongObjs(), 0, 6) {
			for _, index := range append(wrongPlaces(), 0) {
				wantEdit(t, "a snapshot", p, snap, obj, index, b, api.ErrFrozen)
				wantEdit(t, "a snapshot, no key", loaded(p), snap, obj, index, b, api.ErrFrozen)
				if obj == 0 && index == 0 {
					continue
				}
				if index == 0 && obj == 6 {
					continue
				}
				wantEdit(t, "numbers", p, one, obj, index, b, api.ErrArg)
				wantEdit(t, "numbers, no key", loaded(p), one, obj, index, b, api.ErrArg)
			}
		}
	}
	long := make([]byte, 257)
	wantEdit(t, "a text, no key, no object", loaded(p), one, 6, 0, long, api.ErrText)
	wantEdit(t, "a text, no object", p, one, 6, 0, long, api.ErrText)
	wantEdit(t, "a text, a block that is free", stuck, one, 0, 2, long, api.ErrText)
	wantEdit(t, "no key, no object", loaded(p, 0, 5, 6), one, 6, 0, nil, api.ErrKey)
	wantEdit(t, "no key, a hole", p, locked, 0, 1, nil, api.ErrKey)
	wantEdit(t, "no key, a block that is free", loaded(stuck), one, 0, 2, nil, api.ErrKey)
	wantEdit(t, "no object", p, one, 6, 0, text(1), api.ErrNone)
	wantEdit(t, "one that was taken away", p, one, 8, 3, text(1), api.ErrNone)
	wantEdit(t, "one without a head", p, one, 2, 3, text(1), api.ErrNone)
	wantEdit(t, "no object at all", p, last, 0, 0, nil, api.ErrNone)
	wantEdit(t, "a block that is free", stuck, one, 0, 2, nil, api.ErrNone)
	broken := base(t)
	row, _ := rooted(broken, 0, 0)
	row[0] ^= 1
	wantEdit(t, "a root that is turned", broken, one, 0, 0, nil, api.ErrSum)
	wantEdit(t, "a root that is turned, a head", with(broken, heading(one, 0, 1)), one, 0, 0, text(1), api.OK)
	broken = and(busy(t), hole(one, 7, 14))
	_, object := rooted(broken, 0, 7)
	object[40] ^= 1
	wantEdit(t, "an object that is turned", broken, one, 7, 14, nil, api.ErrSum)
	wantEdit(t, "another one", broken, one, 0, 14, nil, api.OK)
}

// Wherever no place is, nothing is put.
func TestP204AnyNumber(t *testing.T) {
	p := busy(t)
	for n := -300; n < 300; n++ {
		if n < 0 || n > 14 {
			wantEdit(t, "a place", p, one, 0, n, nil, api.ErrArg)
		}
		if n < 0 || n > 15 {
			wantEdit(t, "an object", p, one, n, 0, nil, api.ErrArg)
			wantSet(t, "an object", p, one, n, 1, 1, 1, api.ErrArg)
			wantSet(t, "an object", p, one, n, 0, 0, 0, api.ErrArg)
		}
	}
}

// Heads of each kind, about the edges of each number.
func TestP205Heads(t *testing.T) {
	p := busy(t)
	numbers := []int{math.MinInt, -1 << 32, -256, -1, 0, 1, 2, 127, 128, 254, 255, 256, 257, 3839, 3840, 3841, 4096, 65536, 1 << 32, 1<<32 + 1, math.MaxInt}
	for kind := range 256 {
		for _, links := range numbers {
			for _, size := range []int{0, 1} {
				wantBounds(t, p, kind, links, size)
			}
		}
		for _, size := range numbers {
			for _, links := range []int{0, 1} {
				wantBounds(t, p, kind, links, size)
			}
		}
	}
}

// wantBounds asks by hand whether a head may be, of an object that is there.
func wantBounds(t *testing.T, p api.Pool, kind, links, size int) {
	t.Helper()
	want := api.ErrArg
	if kind <= 7 && links >= 0 && links <= 255 && size >= 0 && size <= 3840 && (kind > 0 || links == 0 && size == 0) {
		want = api.OK
	}
	q := wantSet(t, "busy", p, one, 7, uint8(kind), links, size, want)
	if want == api.OK && kind > 0 {
		wantHead(t, "busy", q, one, 7, uint8(kind), links, size, api.OK)
	}
}

// A head is put at its place, whether there is an object or not; no other change is another one, and nothing is given up.
func TestP205Puts(t *testing.T) {
	p := loaded(busy(t), 0, 2, 5, 6)
	for _, id := range []int{one, copied, other, locked, bare, last} {
		for obj := range 16 {
			for kind := 1; kind <= 7; kind++ {
				q := wantSet(t, "busy", p, id, obj, uint8(kind), kind*9, kind*500, api.OK)
				wantGet(t, "busy", q, id, obj, kind, api.OK)
				want := and(p, heading(id, obj, kind))
				if d := differ(q, want); d != "" {
					t.Errorf("Set(%d, %d, %d): %s", id, obj, kind, d)
				}
			}
		}
	}
}

// An object that is taken away has a hole at each place at which there was a change, or data, and at no other one.
func TestP205Away(t *testing.T) {
	p := loaded(busy(t), 0, 2, 5, 6)
	for _, c := range []struct {
		id, obj int
		holes   []int
	}{
		{one, 0, []int{0, 1, 2, 3, 4, 5, 14}}, {one, 5, []int{0, 6}}, {one, 7, []int{0, 14}}, {one, 15, nil},
		{copied, 0, []int{0, 2, 4, 14}}, {copied, 7, []int{14}}, {copied, 8, []int{3, 9}}, {copied, 15, nil},
		{other, 0, []int{0}}, {other, 15, []int{14}}, {locked, 0, []int{0, 1}}, {bare, 0, []int{0}}, {bare, 3, nil},
	} {
		what := fmt.Sprint("Set(", c.id, ", ", c.obj, ", 0)")
		q := wantSet(t, "busy", p, c.id, c.obj, 0, 0, 0, api.OK)
		want := slices.DeleteFunc(slices.Clone(p.Changes), func(x api.Change) bool { return x.Set == c.id && x.Obj == c.obj })
		all := []api.Change{heading(c.id, c.obj, 0)}
		for _, index := range c.holes {
			all = append(all, hole(c.id, c.obj, index))
		}
		if d := differ(with(q, append(want, all...)...), q); d != "" {
			t.Errorf("%s: %s", what, d)
		}
		var gone []api.Ptr
		for _, x := range p.Changes {
			if x.Set == c.id && x.Obj == c.obj {
				gone = append(gone, x.Laid)
			}
		}
		wantGone(t, what, p, q, gone...)
		wantGet(t, "away", q, c.id, c.obj, 0, api.ErrNone)
		wantRead(t, "away", q, c.id, c.obj, 0, nil, api.ErrNone)
		wantEdit(t, "away", q, c.id, c.obj, 0, nil, api.ErrNone)
		wantSet(t, "away", q, c.id, c.obj, 0, 0, 0, api.ErrNone)
		for i, r := range []api.Pool{q, synced(t, q)} {
			r = wantSet(t, "away", r, c.id, c.obj, 7, 1, 1, api.OK)
			for index := range 15 {
				wantRead(t, fmt.Sprint("made again, ", i), r, c.id, c.obj, index, noughts(), api.OK)
			}
		}
	}
}

// What is refused, in order: the line, a snapshot, numbers, the key; where the object is to go, that it is there, what its Root has, and what goes.
func TestP205Order(t *testing.T) {
	p := busy(t)
	for _, kind := range []uint8{0, 1, 7, 8, 255} {
		for _, obj := range append(wrongObjs(), 0, 6) {
			for _, links := range []int{-1, 0, 256} {
				wantSet(t, "a snapshot", p, snap, obj, kind, links, 0, api.ErrFrozen)
				wantSet(t, "a snapshot, no key", loaded(p), snap, obj, kind, links, 3841, api.ErrFrozen)
				if obj < 0 || obj > 15 || links != 0 || kind > 7 {
					wantSet(t, "numbers", p, one, obj, kind, links, 0, api.ErrArg)
					wantSet(t, "numbers, no key", loaded(p), one, obj, kind, links, 0, api.ErrArg)
				}
			}
		}
	}
	for kind := range uint8(8) {
		wantSet(t, "no key, no object", loaded(p), one, 6, kind, 0, 0, api.ErrKey)
		wantSet(t, "no key", p, locked, 0, kind, 0, 0, api.ErrKey)
	}
	for obj, want := range map[int]api.Errno{6: api.ErrNone, 8: api.ErrNone, 9: api.ErrNone, 2: api.ErrNone, 0: api.OK} {
		wantSet(t, "taken away", p, one, obj, 0, 0, 0, want)
	}
	wantSet(t, "no object at all", p, last, 0, 0, 0, 0, api.ErrNone)
}

// Where the Root is broken an object is not taken away, also where its head was changed; a head is put.
func TestP205Broken(t *testing.T) {
	p := base(t)
	row, _ := rooted(p, 0, 0)
	row[3] ^= 1
	for kind := range uint8(8) {
		want := api.OK
		if kind == 0 {
			want = api.ErrSum
		}
		wantSet(t, "a root that is turned", p, one, 0, kind, 0, 0, want)
		wantSet(t, "a root that is turned, a head", with(p, heading(one, 0, 1)), one, 0, kind, 0, 0, want)
		wantSet(t, "a root that is turned, a new one", with(p, heading(one, 1, 1), put(one, 1, 0, 1)), one, 1, kind, 0, 0, want)
		wantSet(t, "no key", loaded(p), one, 0, kind, 0, 0, api.ErrKey)
	}
	wantSet(t, "one that was taken away", with(p, heading(one, 0, 0)), one, 0, 0, 0, 0, api.ErrNone)
	p = base(t)
	_, object := rooted(p, 0, 8)
	object[5] ^= 1
	wantSet(t, "an object that is turned", p, one, 8, 0, 0, 0, api.ErrSum)
	wantSet(t, "an object that is turned, a head", with(p, heading(one, 8, 1)), one, 8, 0, 0, 0, api.ErrSum)
	wantSet(t, "another one", p, one, 7, 0, 0, 0, api.OK)
	p = base(t)
	_, object = rooted(p, 0, 8)
	p.Store.Disk.Blocks[object[16+3*16]][0] ^= 1
	wantSet(t, "data that is turned", p, one, 8, 0, 0, 0, api.OK)
}

// What goes has to be used: else nothing changes, whichever of the places it is.
func TestP205Gives(t *testing.T) {
	for index := range 15 {
		p := base(t)
		var all []api.Change
		for i := range 15 {
			all = append(all, laid(one, 3, i, sealed(&p, 2, i)))
		}
		p = with(p, append(all, heading(one, 3, 1))...)
		var gone []api.Ptr
		for _, c := range p.Changes {
			gone = append(gone, c.Laid)
		}
		q := wantSet(t, "all were laid", p, one, 3, 0, 0, 0, api.OK)
		wantGone(t, "all were laid", p, q, gone...)
		for _, mark := range []byte{unused, later} {
			q := slowTwin(p)
			q.Store.Space[p.Changes[index].Laid.At] = mark
			wantSet(t, fmt.Sprint("mark ", mark), q, one, 3, 0, 0, 0, api.ErrNone)
			wantSet(t, fmt.Sprint("mark ", mark), q, one, 3, 2, 1, 1, api.OK)
		}
		if index > 0 {
			q := slowTwin(p)
			q.Changes[index].Laid.At = q.Changes[0].Laid.At
			wantSet(t, "two at one block", q, one, 3, 0, 0, 0, api.ErrNone)
		}
	}
}

// A change has no Laid at first, and none of what it does not name.
func TestP20Fields(t *testing.T) {
	p := base(t)
	q, e := data.Edit(p, one, 0, 3, []byte("x"))
	if e != api.OK || len(q.Changes) != 1 {
		t.Fatal(len(q.Changes), e)
	}
	c := q.Changes[0]
	if c.Set != one || c.Obj != 0 || c.Index != 3 || c.Kind != 0 || c.Links != 0 || c.Size != 0 || len(c.Data) != 256 || c.Laid != none {
		t.Errorf("Edit: %v", c)
	}
	q, e = data.Set(p, one, 4, 3, 2, 1)
	if e != api.OK || len(q.Changes) != 1 {
		t.Fatal(len(q.Changes), e)
	}
	c = q.Changes[0]
	if c.Set != one || c.Obj != 4 || c.Index != head || c.Kind != 3 || c.Links != 2 || c.Size != 1 || len(c.Data) != 0 || c.Laid != none {
		t.Errorf("Set: %v", c)
	}
}
