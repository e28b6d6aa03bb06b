package data_test

import (
	"math"
	"testing"

	"charterhouse/api"
	"charterhouse/data"
	"charterhouse/txg"
)

// wrongObjs and wrongPlaces are numbers of no object, and of no place.
func wrongObjs() []int {
	return []int{-1, 16, 17, -16, 255, 256, 257, 1 << 32, 1<<32 + 1, -1 << 32, math.MaxInt, math.MinInt, math.MinInt + 1}
}

func wrongPlaces() []int {
	return append([]int{15}, wrongObjs()...)
}

// All that a pool has, with changes of each kind, and without.
func TestP203Standing(t *testing.T) {
	p := busy(t)
	wantStanding(t, "busy", loaded(p, 0, 2, 5, 6), lineIds())
	p = base(t)
	wantGet(t, "base", p, one, 0, 1, api.OK)
	wantGet(t, "base", p, one, 2, 0, api.ErrNone)
	wantGet(t, "base", p, one, 8, 7, api.OK)
	for index, n := range map[int]int{0: 10, 1: 11, 2: 12, 4: 14, 14: 15} {
		wantRead(t, "base", p, one, 0, index, text(n), api.OK)
	}
	wantRead(t, "base", p, one, 0, 3, noughts(), api.OK)
	wantRead(t, "base", p, one, 15, 14, noughts(), api.OK)
	wantRead(t, "base", p, copied, 0, 1, noughts(), api.OK)
	wantRead(t, "base", p, last, 0, 0, nil, api.ErrNone)
}

// Heads are told without any key, whatever the change or the Root has.
func TestP203Heads(t *testing.T) {
	p := loaded(busy(t))
	for id, objs := range kinds() {
		for obj := range 16 {
			want := api.OK
			if objs[obj] == 0 {
				want = api.ErrNone
			}
			wantGet(t, "no keys", p, id, obj, objs[obj], want)
		}
	}
	for _, c := range []api.Change{{Kind: 1}, {Kind: 1, Links: 255}, {Kind: 7, Size: 3840}, {Kind: 3, Links: 1, Size: 256}, {Kind: 2, Links: 128, Size: 255}} {
		for obj := range 16 {
			c.Set, c.Obj, c.Index = one, obj, head
			p := and(p, c)
			wantHead(t, "by a change", p, one, obj, c.Kind, c.Links, c.Size, api.OK)
			wantHead(t, "by the Root", synced(t, with(base(t), c)), one, obj, c.Kind, c.Links, c.Size, api.OK)
		}
	}
	for _, obj := range wrongObjs() {
		for _, id := range lineIds() {
			wantGet(t, "a wrong object", p, id, obj, 0, api.ErrArg)
		}
		wantGet(t, "a wrong object of no line", p, 5, obj, 0, api.ErrNone)
	}
	for obj := -300; obj < 300; obj++ {
		if obj < 0 || obj > 15 {
			wantGet(t, "a wrong object", p, one, obj, 0, api.ErrArg)
		}
	}
}

// Of a change its data stands there, not what was laid; without data what was laid; else noughts.
func TestP203Changes(t *testing.T) {
	p := base(t)
	at, broken := sealed(&p, 2, 50), sealed(&p, 2, 51)
	p.Store.Disk.Waits[1].Data[7] ^= 1
	for obj := range 16 {
		for index := range 15 {
			q := and(p, heading(one, obj, 1))
			for _, l := range []api.Ptr{none, at, broken} {
				c := put(one, obj, index, 52)
				c.Laid = l
				wantRead(t, "data", and(q, c), one, obj, index, text(52), api.OK)
			}
			nothing := laid(one, obj, index, at)
			nothing.Data = []byte{}
			wantRead(t, "laid", and(q, laid(one, obj, index, at)), one, obj, index, text(50), api.OK)
			wantRead(t, "laid, and no bytes", and(q, nothing), one, obj, index, text(50), api.OK)
			wantRead(t, "broken", and(q, laid(one, obj, index, broken)), one, obj, index, nil, api.ErrSum)
			wantRead(t, "a hole", and(q, hole(one, obj, index)), one, obj, index, noughts(), api.OK)
			for beside := range 15 {
				if beside != index {
					wantRead(t, "beside", and(q, hole(one, obj, index), put(one, obj, beside, 54)), one, obj, index, noughts(), api.OK)
				}
			}
		}
	}
}

// What is asked comes in order: the line, its numbers, its key, its object, and only then what stands there.
func TestP203ReadOrder(t *testing.T) {
	p := busy(t)
	for _, id := range lineIds() {
		for _, p := range []api.Pool{p, loaded(p)} {
			for _, obj := range wrongObjs() {
				wantRead(t, "a wrong object", p, id, obj, 0, nil, api.ErrArg)
				wantRead(t, "both", p, id, obj, 15, nil, api.ErrArg)
				wantRead(t, "a wrong object of no line", p, 5, obj, 0, nil, api.ErrNone)
			}
			for _, index := range wrongPlaces() {
				wantRead(t, "a wrong place", p, id, 0, index, nil, api.ErrArg)
				wantRead(t, "a wrong place of no object", p, id, 6, index, nil, api.ErrArg)
			}
		}
	}
	// All keys are loaded but its own.
	for id, keys := range map[int][]int{one: {0, 1, 3, 4, 5, 6, 7}, snap: {0, 5, 6}, copied: {1, 3}, other: {2, 4, 6}, locked: {1, 2, 5, 6, 7}} {
		for obj := range 16 {
			for index := range 15 {
				wantRead(t, "no key", loaded(p, keys...), id, obj, index, nil, api.ErrKey)
			}
		}
	}
	q := loaded(p, 2)
	q.Loaded[2] = key(5)
	wantRead(t, "another key", q, one, 0, 4, nil, api.ErrTag)
	wantRead(t, "another key, what was laid", q, one, 0, 2, nil, api.ErrTag)
	wantRead(t, "another key, data", q, one, 0, 0, text(26), api.OK)
	wantRead(t, "another key, a hole", q, one, 0, 1, noughts(), api.OK)
	wantRead(t, "another key, no object", q, one, 9, 1, nil, api.ErrNone)
}

// rooted tells the block of the row of a line of base, and that of one of its objects.
func rooted(p api.Pool, i, obj int) (row, object []byte) {
	row = p.Store.Disk.Blocks[p.Lines[i].Root.At]
	return row, p.Store.Disk.Blocks[row[obj*16]]
}

// Where the Root is broken, only what asks it is refused.
func TestP203BrokenRoot(t *testing.T) {
	p := base(t)
	row, _ := rooted(p, 0, 0)
	row[255] ^= 1
	p = with(p, heading(one, 0, 1), put(one, 0, 0, 60), hole(one, 0, 1), put(one, 1, 0, 61), heading(one, 2, 0))
	wantGet(t, "a head that is changed", p, one, 0, 1, api.OK)
	wantGet(t, "one that was taken away", p, one, 2, 0, api.ErrNone)
	wantRead(t, "data", p, one, 0, 0, text(60), api.OK)
	wantRead(t, "a hole", p, one, 0, 1, noughts(), api.OK)
	wantRead(t, "no change", p, one, 0, 2, nil, api.ErrSum)
	wantRead(t, "one that was taken away", p, one, 2, 0, nil, api.ErrNone)
	wantGet(t, "a head that is not", p, one, 1, 0, api.ErrSum)
	wantRead(t, "data of an object without a head", p, one, 1, 0, nil, api.ErrSum)
	for obj := 3; obj < 16; obj++ {
		wantGet(t, "no change", p, one, obj, 0, api.ErrSum)
		wantRead(t, "no change", p, one, obj, 0, nil, api.ErrSum)
		wantRead(t, "no change, no key", loaded(p), one, obj, 0, nil, api.ErrKey)
	}
	wantGet(t, "a wrong object", p, one, 16, 0, api.ErrArg)
	wantGet(t, "another line", p, other, 0, 4, api.OK)
}

// Where an object is broken all others are told; where its data is its head is.
func TestP203BrokenObject(t *testing.T) {
	p := base(t)
	_, object := rooted(p, 0, 0)
	object[0] ^= 1
	wantGet(t, "a broken object", p, one, 0, 0, api.ErrSum)
	wantRead(t, "a broken object", p, one, 0, 0, nil, api.ErrSum)
	wantGet(t, "another object", p, one, 7, 2, api.OK)
	q := with(p, heading(one, 0, 3), put(one, 0, 0, 62))
	wantGet(t, "a head that is changed", q, one, 0, 3, api.OK)
	wantRead(t, "data", q, one, 0, 0, text(62), api.OK)
	wantRead(t, "no change", q, one, 0, 1, nil, api.ErrSum)
	p = base(t)
	_, object = rooted(p, 0, 0)
	p.Store.Disk.Blocks[object[16]][100] ^= 1
	wantGet(t, "broken data", p, one, 0, 1, api.OK)
	wantRead(t, "broken data", p, one, 0, 0, nil, api.ErrSum)
	wantRead(t, "beside", p, one, 0, 1, text(11), api.OK)
	wantRead(t, "a hole beside", p, one, 0, 3, noughts(), api.OK)
	wantRead(t, "a change there", with(p, hole(one, 0, 0)), one, 0, 0, noughts(), api.OK)
}

// A Root that points to what is no row, or to objects that are none.
func TestP203BadRoot(t *testing.T) {
	p := base(t)
	lay := func(p api.Pool, n int, b []byte) api.Pool {
		p = slowTwin(p)
		p.Store.Disk.Blocks[200+n], p.Store.Space[200+n] = b, used
		return p
	}
	at := func(n int, b []byte) api.Ptr { return api.Ptr{At: 200 + n, Birth: 3, Sum: slowSum(b)} }
	row := append([]byte{5}, make([]byte, 255)...)
	q := lay(p, 0, row)
	q.Lines[0].Root = at(0, row)
	wantGet(t, "no row", q, one, 0, 0, api.ErrBad)
	wantRead(t, "no row", q, one, 0, 0, nil, api.ErrBad)
	wantEdit(t, "no row", q, one, 0, 0, nil, api.ErrBad)
	wantSet(t, "no row", q, one, 0, 0, 0, 0, api.ErrBad)
	wantSet(t, "no row", q, one, 0, 1, 0, 0, api.OK)
	wantRead(t, "no row, a head", with(q, heading(one, 0, 1)), one, 0, 0, nil, api.ErrBad)
	wantSet(t, "no row, a head", with(q, heading(one, 0, 1)), one, 0, 0, 0, 0, api.ErrBad)
	object := append([]byte{8}, make([]byte, 255)...)
	row = make([]byte, 256)
	copy(row[32:], append([]byte{201, 3, 0, 0, 0, 0, 0, 0, 0, 0, 0, 0}, slowBytes(slowSum(object), 4)...))
	q = lay(lay(p, 0, row), 1, object)
	q.Lines[0].Root = at(0, row)
	wantGet(t, "no object's block", q, one, 2, 0, api.ErrBad)
	wantGet(t, "beside it", q, one, 1, 0, api.ErrNone)
	wantRead(t, "no object's block", q, one, 2, 0, nil, api.ErrBad)
	wantSet(t, "no object's block", q, one, 2, 0, 0, 0, api.ErrBad)
}

// What is read is as long as a block, whichever it is.
func TestP203Long(t *testing.T) {
	p := busy(t)
	for _, id := range []int{one, snap, copied, other} {
		for obj := range 16 {
			for index := range 15 {
				if b, e := data.Read(p, id, obj, index); e == api.OK && len(b) != 256 || e != api.OK && len(b) > 0 {
					t.Errorf("Read(%d, %d, %d): %d bytes, error %d", id, obj, index, len(b), e)
				}
			}
		}
	}
}

// The chapter's examples.
func TestExamples(t *testing.T) {
	p, id := wantCreate(t, "P", synced(t, txg.New()), "a", make([]byte, 16), api.OK)
	if id != 1 {
		t.Fatalf("Id %d", id)
	}
	q := wantSet(t, "P", p, 1, 0, 1, 1, 5, api.OK)
	q = wantEdit(t, "P", q, 1, 0, 0, []byte("abc"), api.OK)
	wantRead(t, "P", q, 1, 0, 0, append([]byte("abc"), make([]byte, 253)...), api.OK)
	wantHead(t, "P", q, 1, 0, 1, 1, 5, api.OK)
	wantRead(t, "P", p, 1, 0, 0, nil, api.ErrNone)
	wantEdit(t, "P", p, 1, 16, 0, nil, api.ErrArg)
	wantGet(t, "P", p, 2, 0, 0, api.ErrNone)
	r := wantUnload(t, "P", p, 1, api.OK)
	wantRead(t, "P", r, 1, 0, 0, nil, api.ErrKey)
	wantLoad(t, "P", r, 1, "b", api.ErrPass)
	r = wantLoad(t, "P", wantUnload(t, "P", q, 1, api.OK), 1, "a", api.OK)
	wantRead(t, "P, unloaded and loaded", r, 1, 0, 0, append([]byte("abc"), make([]byte, 253)...), api.OK)
}
