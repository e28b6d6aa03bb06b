package data_test

import (
	"bytes"
	"fmt"
	"strings"
	"testing"

	"charterhouse/api"
	"charterhouse/data"
	"charterhouse/txg"
)

// text is a block of bytes, another one for each n up to 255.
func text(n int) []byte {
	b := make([]byte, 256)
	for i := range b {
		b[i] = byte(i*37 + n*11)
	}
	return b
}

// noughts are what stands at a hole.
func noughts() []byte { return make([]byte, 256) }

// key is that of place n of Keys, which pass wraps.
func key(n int) []byte  { return text(n)[100:116:116] }
func pass(n int) string { return fmt.Sprint("pass ", n) }

// lock wraps a key at its place, by another salt for each.
func lock(p *api.Pool, n int) {
	p.Keys[n] = slowWrap(pass(n), key(n), uint32(n*77))
}

// put is a change of a place by data, hole one to a hole, laid one to what was laid already, heading one of an object's head.
func put(set, obj, index, n int) api.Change {
	return api.Change{Set: set, Obj: obj, Index: index, Data: text(n)}
}

func hole(set, obj, index int) api.Change {
	return api.Change{Set: set, Obj: obj, Index: index}
}

func laid(set, obj, index int, at api.Ptr) api.Change {
	return api.Change{Set: set, Obj: obj, Index: index, Laid: at}
}

func heading(set, obj, kind int) api.Change {
	return api.Change{Set: set, Obj: obj, Index: head, Kind: uint8(kind), Links: kind * 9, Size: kind * 500}
}

// with is p with these changes, in the order in which they have to be, and no others.
func with(p api.Pool, changes ...api.Change) api.Pool {
	p = slowTwin(p)
	p.Changes = nil
	for _, c := range changes {
		plainPut(&p, c)
	}
	return p
}

// and is p with these changes, too; one that was there goes, and nothing is given up.
func and(p api.Pool, changes ...api.Change) api.Pool {
	p = slowTwin(p)
	for _, c := range changes {
		if was := changeOf(p, c.Set, c.Obj, c.Index); was != nil {
			was.Laid = none
		}
		plainPut(&p, c)
	}
	return p
}

// loaded is p with these keys loaded, and no others.
func loaded(p api.Pool, keys ...int) api.Pool {
	p = slowTwin(p)
	p.Loaded = make([][]byte, 8)
	for _, n := range keys {
		p.Loaded[n] = key(n)
	}
	return p
}

// sealed lays a text, sealed by a key, without any change that has it.
func sealed(p *api.Pool, n, of int) api.Ptr {
	at := bytes.IndexByte(p.Store.Space, unused)
	p.Store.Count++
	iv := p.Store.Epoch*65536 + p.Store.Count
	made := slowCipher(key(n), iv, text(of))
	p.Store.Space[at] = used
	p.Store.Disk.Waits = append(p.Store.Disk.Waits, api.Write{At: at, Data: made})
	return api.Ptr{At: at, Birth: p.Gen + 1, Iv: iv, Tag: slowTag(key(n), iv, made), Sum: slowSum(made)}
}

func synced(t *testing.T, p api.Pool) api.Pool {
	t.Helper()
	p, e := txg.Sync(p)
	if e != api.OK {
		t.Fatalf("Sync: %d", e)
	}
	return p
}

// The lines of base, and what a line is that it has not.
const (
	one    = 1   // a dataset
	snap   = 2   // its snapshot
	copied = 3   // the clone of that
	other  = 4   // a dataset with a key of its own
	locked = 9   // one whose key is not loaded
	bare   = 11  // one whose key is loaded, but not wrapped
	last   = 255 // one without objects
)

func lineIds() []int { return []int{one, snap, copied, other, locked, bare, last} }
func noIds() []int {
	return []int{0, -1, 5, 8, 10, 12, 254, 256, 257, 258, 511, 512, 1 << 32, 1<<32 + 1, -255}
}

// base is a pool of four syncs. Dataset 1, key 2: object 0 has data at 0, 1, 2, 4 and 14, object 7 at 14, object 8 at 3 and 9; object 15 has none. Its snapshot 2 has the same, its clone 3 too, but for a hole at 1 of object 0. Dataset 4, key 5: object 0 at 0; 9, key 0, and 11, key 6: likewise; 255, key 5: nothing.
func base(t *testing.T) api.Pool {
	t.Helper()
	p := txg.New()
	for _, n := range []int{2, 5, 0} {
		lock(&p, n)
	}
	p = loaded(synced(t, p), 0, 2, 5, 6)
	for _, l := range [][2]int{{one, 2}, {other, 5}, {locked, 0}, {bare, 6}, {last, 5}} {
		p.Lines = append(p.Lines, api.Line{Id: l[0], Kind: isHead, Owner: l[0], Txg: 1, Guid: uint32(l[0] * 3), Key: l[1]})
	}
	p.NextId, p.NextGuid = 256, 1001
	p = synced(t, with(p,
		put(one, 0, 0, 10), put(one, 0, 1, 11), put(one, 0, 2, 12), put(one, 0, 4, 14), put(one, 0, 14, 15), heading(one, 0, 1),
		put(one, 7, 14, 16), heading(one, 7, 2), put(one, 8, 3, 17), put(one, 8, 9, 18), heading(one, 8, 7), heading(one, 15, 3),
		put(other, 0, 0, 40), heading(other, 0, 4), put(locked, 0, 0, 90), heading(locked, 0, 5), put(bare, 0, 0, 110), heading(bare, 0, 6),
	))
	mine := p.Lines[0]
	shot, twin := mine, mine
	shot.Id, shot.Kind, shot.Txg, shot.Guid = snap, isSnap, p.Gen, 901
	mine.Prev, mine.Txg = snap, p.Gen
	twin.Id, twin.Owner, twin.Prev, twin.Txg, twin.Guid = copied, copied, snap, p.Gen, 903
	p.Lines = append([]api.Line{mine, shot, twin}, p.Lines[1:]...)
	p = synced(t, loaded(p, 2, 5, 6))
	return synced(t, with(p, hole(copied, 0, 1)))
}

// busy is base with changes of each kind. Of object 0 of dataset 1: the head; at 0 data; at 1 a hole; at 2 what was laid; at 3 data, which was laid, too; at 5 a hole where there was one. Object 2 has no head, but data at 3. Object 5 is new, with data at 0 and what was laid at 6. Of object 7 only data at 0. Object 8 was taken away, with holes at 3 and 5 alone. Object 9 was taken away that never lasted.
func busy(t *testing.T) api.Pool {
	t.Helper()
	p := base(t)
	two, three, six, clones, others := sealed(&p, 2, 20), sealed(&p, 2, 25), sealed(&p, 2, 22), sealed(&p, 2, 23), sealed(&p, 5, 24)
	both := put(one, 0, 3, 25)
	both.Laid = three
	return with(p,
		heading(one, 0, 6), put(one, 0, 0, 26), hole(one, 0, 1), laid(one, 0, 2, two), both, hole(one, 0, 5),
		put(one, 2, 3, 27), heading(one, 5, 1), put(one, 5, 0, 28), laid(one, 5, 6, six), put(one, 7, 0, 29),
		heading(one, 8, 0), hole(one, 8, 3), hole(one, 8, 5), heading(one, 9, 0), hole(one, 9, 1),
		laid(copied, 0, 0, clones), laid(other, 15, 14, others), heading(other, 15, 7), heading(bare, 3, 2), hole(locked, 0, 1),
	)
}

// standing are the texts of busy, by line, object and place; holes are told by none of them.
func standing() map[[3]int]int {
	all := map[[3]int]int{
		{one, 0, 0}: 26, {one, 0, 2}: 20, {one, 0, 3}: 25, {one, 0, 4}: 14, {one, 0, 14}: 15,
		{one, 5, 0}: 28, {one, 5, 6}: 22, {one, 7, 0}: 29, {one, 7, 14}: 16,
		{copied, 0, 0}: 23, {copied, 0, 2}: 12, {copied, 0, 4}: 14, {copied, 0, 14}: 15,
		{snap, 0, 0}: 10, {snap, 0, 1}: 11, {snap, 0, 2}: 12, {snap, 0, 4}: 14, {snap, 0, 14}: 15,
		{other, 0, 0}: 40, {other, 15, 14}: 24, {bare, 0, 0}: 110, {locked, 0, 0}: 90,
	}
	for _, id := range []int{snap, copied} {
		all[[3]int{id, 7, 14}], all[[3]int{id, 8, 3}], all[[3]int{id, 8, 9}] = 16, 17, 18
	}
	return all
}

// kinds are those of busy's objects, by line.
func kinds() map[int]map[int]int {
	same := map[int]int{0: 1, 7: 2, 8: 7, 15: 3}
	return map[int]map[int]int{
		one:  {0: 6, 5: 1, 7: 2, 15: 3},
		snap: same, copied: same,
		other: {0: 4, 15: 7}, locked: {0: 5}, bare: {0: 6, 3: 2}, last: {},
	}
}

// badPools are pools that may not be, in each of whose parts something is wrong.
func badPools(t *testing.T) map[string]api.Pool {
	all := map[string]api.Pool{"none": {}}
	for what, turn := range map[string]func(p *api.Pool){
		"no blocks":         func(p *api.Pool) { p.Store.Disk.Blocks = nil },
		"a short block":     func(p *api.Pool) { p.Store.Disk.Blocks[255] = text(1)[:255] },
		"a mark":            func(p *api.Pool) { p.Store.Space[255] = 3 },
		"Epoch 0":           func(p *api.Pool) { p.Store.Epoch = 0 },
		"Gen":               func(p *api.Pool) { p.Gen = mostTxg + 1 },
		"no Root":           func(p *api.Pool) { p.Root = none },
		"Meta":              func(p *api.Pool) { p.Meta = append(p.Meta, 255) },
		"an Owner":          func(p *api.Pool) { p.Lines[0].Owner = 2 },
		"too many lines":    func(p *api.Pool) { p.Lines = make([]api.Line, 17) },
		"no Keys":           func(p *api.Pool) { p.Keys = nil },
		"a key of 23":       func(p *api.Pool) { p.Keys[2] = text(1)[:23] },
		"seven loaded":      func(p *api.Pool) { p.Loaded = p.Loaded[:7] },
		"a loaded of 15":    func(p *api.Pool) { p.Loaded[2] = text(1)[:15] },
		"a change of none":  func(p *api.Pool) { p.Changes = []api.Change{hole(5, 0, 0)} },
		"a change of snap":  func(p *api.Pool) { p.Changes = []api.Change{hole(snap, 0, 0)} },
		"a change of 255":   func(p *api.Pool) { p.Changes = []api.Change{{Set: one, Data: text(1)[:255]}} },
		"changes that fall": func(p *api.Pool) { p.Changes = []api.Change{hole(one, 1, 0), hole(one, 0, 0)} },
		"Logged":            func(p *api.Pool) { p.Logged = 9 },
		"NextId":            func(p *api.Pool) { p.NextId = 255 },
		"NextId 0":          func(p *api.Pool) { p.NextId = 0 },
		"NextGuid":          func(p *api.Pool) { p.NextGuid = 1 },
	} {
		p := base(t)
		turn(&p)
		all[what] = p
	}
	return all
}

// wantPool asks that a call answers a pool as the plain reading has it, and for the error by hand.
func wantPool(t *testing.T, what string, got, plain api.Pool, e, plainE, want api.Errno) api.Pool {
	t.Helper()
	if e != want || plainE != want {
		t.Errorf("%s: error %d; by the plain reading %d; want %d", what, e, plainE, want)
	}
	if d := differ(got, plain); d != "" {
		t.Errorf("%s: %s", what, d)
	}
	if e == api.OK && txg.Check(got) != api.OK {
		t.Errorf("%s: what is answered may not be", what)
	}
	return got
}

func wantCreate(t *testing.T, what string, p api.Pool, pass string, key []byte, want api.Errno) (api.Pool, int) {
	t.Helper()
	q, plainId, plainE := plainCreate(p, pass, key)
	got, id, e := data.Create(p, pass, key)
	if id != plainId {
		t.Errorf("%s: Create: Id %d; want %d", what, id, plainId)
	}
	return wantPool(t, what+": Create", got, q, e, plainE, want), id
}

func wantLoad(t *testing.T, what string, p api.Pool, id int, pass string, want api.Errno) api.Pool {
	t.Helper()
	q, plainE := plainLoad(p, id, pass)
	got, e := data.Load(p, id, pass)
	return wantPool(t, fmt.Sprint(what, ": Load(", id, ")"), got, q, e, plainE, want)
}

func wantUnload(t *testing.T, what string, p api.Pool, id int, want api.Errno) api.Pool {
	t.Helper()
	q, plainE := plainUnload(p, id)
	got, e := data.Unload(p, id)
	return wantPool(t, fmt.Sprint(what, ": Unload(", id, ")"), got, q, e, plainE, want)
}

func wantEdit(t *testing.T, what string, p api.Pool, id, obj, index int, b []byte, want api.Errno) api.Pool {
	t.Helper()
	q, plainE := plainEdit(p, id, obj, index, b)
	got, e := data.Edit(p, id, obj, index, b)
	return wantPool(t, fmt.Sprint(what, ": Edit(", id, ", ", obj, ", ", index, ", ", len(b), " bytes)"), got, q, e, plainE, want)
}

func wantSet(t *testing.T, what string, p api.Pool, id, obj int, kind uint8, links, size int, want api.Errno) api.Pool {
	t.Helper()
	q, plainE := plainSet(p, id, obj, kind, links, size)
	got, e := data.Set(p, id, obj, kind, links, size)
	return wantPool(t, fmt.Sprint(what, ": Set(", id, ", ", obj, ", ", kind, ", ", links, ", ", size, ")"), got, q, e, plainE, want)
}

// wantRead asks for what is read; beside an error nothing is.
func wantRead(t *testing.T, what string, p api.Pool, id, obj, index int, want []byte, wantE api.Errno) {
	t.Helper()
	b, plainE := plainRead(p, id, obj, index)
	got, e := data.Read(p, id, obj, index)
	if e != wantE || plainE != wantE || !bytes.Equal(got, want) || !bytes.Equal(b, want) {
		t.Errorf("%s: Read(%d, %d, %d): % x.., %d; by the plain reading % x.., %d; want % x.., %d",
			what, id, obj, index, got[:min(8, len(got))], e, b[:min(8, len(b))], plainE, want[:min(8, len(want))], wantE)
	}
}

// wantGet asks for a head as heading makes it; of kind 0 for that there is none.
func wantGet(t *testing.T, what string, p api.Pool, id, obj, kind int, wantE api.Errno) {
	t.Helper()
	wantHead(t, what, p, id, obj, uint8(kind), kind*9, kind*500, wantE)
}

func wantHead(t *testing.T, what string, p api.Pool, id, obj int, kind uint8, links, size int, wantE api.Errno) {
	t.Helper()
	told := func(kind uint8, links, size int, e api.Errno) string { return fmt.Sprint(kind, links, size, int(e)) }
	got, plain, want := told(data.Get(p, id, obj)), told(plainGet(p, id, obj)), told(kind, links, size, wantE)
	if got != want || plain != want {
		t.Errorf("%s: Get(%d, %d): %s; by the plain reading %s; want %s", what, id, obj, got, plain, want)
	}
}

func wantLine(t *testing.T, what string, p api.Pool, id int, want api.Errno) {
	t.Helper()
	l, plainE := plainLine(p, id)
	got, e := data.Line(p, id)
	if e != want || plainE != want || fmt.Sprint(got) != fmt.Sprint(l) {
		t.Errorf("%s: Line(%d): %v, %d; by the plain reading %v, %d; want %d", what, id, got, e, l, plainE, want)
	}
}

// wantRefused asks for one error of all calls that are on a line, whatever else they are handed.
func wantRefused(t *testing.T, what string, p api.Pool, id int, want api.Errno) {
	t.Helper()
	wantLine(t, what, p, id, want)
	for _, pass := range []string{"", "pass 2", strings.Repeat("x", 65)} {
		wantLoad(t, what, p, id, pass, want)
	}
	wantUnload(t, what, p, id, want)
	for _, obj := range []int{-1, 0, 1, 16} {
		wantGet(t, what, p, id, obj, 0, want)
		for _, index := range []int{-1, 0, 15} {
			wantRead(t, what, p, id, obj, index, nil, want)
			for _, b := range [][]byte{nil, text(1), make([]byte, 257)} {
				wantEdit(t, what, p, id, obj, index, b, want)
			}
		}
		for kind := range uint8(9) {
			wantSet(t, what, p, id, obj, kind, 0, 0, want)
			wantSet(t, what, p, id, obj, kind, -1, 3841, want)
		}
	}
}
