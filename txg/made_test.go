package txg_test

import (
	"bytes"
	"cmp"
	"fmt"
	"maps"
	"slices"
	"testing"

	"charterhouse/api"
	"charterhouse/dev"
	"charterhouse/label"
	"charterhouse/txg"
)

// text is a block of bytes, another one for each n up to 255. By its first byte it is none that the pool lays for itself.
func text(n int) []byte {
	b := make([]byte, 256)
	for i := range b {
		b[i] = byte(i*37 + n*11)
	}
	b[0] = 9
	return b
}

// key is one that is loaded, wrapped one of Keys: each n up to 255 has its own.
func key(n int) []byte     { return text(n)[100:116:116] }
func wrapped(n int) []byte { return text(n)[50:74:74] }

// chance is a number that hangs on a seed alone.
type chance uint32

func chances(seed int) *chance {
	c := chance(uint32(seed)*2654435761 + 12345)
	return &c
}

func (c *chance) of(n int) int {
	*c = *c*1664525 + 1013904223
	return int(*c>>8) % n
}

// thing is an object as plain bytes; a place without any is a hole.
type thing struct {
	kind  uint8
	links int
	size  int
	data  [15]string
}

// house is a pool, and what should be in it by plain trees.
type house struct {
	t    *testing.T
	what string
	c    *chance
	p    api.Pool
	last api.Pool              // the pool of the label that lasts
	in   map[int]map[int]thing // line by line, object by object
	keys [8][]byte
	said map[[3]int]string // what stands at a place that is changed
	left map[int]bool      // blocks that are used by nobody
	seen map[string]int    // what was done, and which errors were told
}

func newHouse(t *testing.T, seed int) *house {
	return &house{
		t: t, what: fmt.Sprint("seed ", seed), c: chances(seed), p: txg.New(),
		in: map[int]map[int]thing{}, said: map[[3]int]string{}, left: map[int]bool{}, seen: map[string]int{},
	}
}

func (h *house) add(l api.Line, in map[int]thing) {
	l.Id, l.Guid = h.p.NextId, h.p.NextGuid
	h.p.Lines = append(h.p.Lines, l)
	h.in[l.Id] = maps.Clone(in)
	h.p.NextId++
	h.p.NextGuid += 2
}

func (h *house) isFull() bool {
	return len(h.p.Lines) == mostLines || h.p.NextId > mostId
}

// head makes a dataset with a key of its own.
func (h *house) head() {
	k := slices.IndexFunc(h.p.Keys, func(k []byte) bool { return len(k) == 0 })
	if h.isFull() || k < 0 {
		return
	}
	n := h.p.NextId
	h.p.Keys[k], h.p.Loaded[k], h.keys[k] = wrapped(n), key(n), key(n)
	h.add(api.Line{Kind: isHead, Owner: n, Txg: h.p.Gen, Key: k}, map[int]thing{})
	h.seen["head"]++
}

// some tells the place of a line of a kind, by lot; none, if there is none.
func (h *house) some(kind uint8) int {
	var all []int
	for i, l := range h.p.Lines {
		if l.Kind == kind {
			all = append(all, i)
		}
	}
	if len(all) == 0 {
		return -1
	}
	return all[h.c.of(len(all))]
}

// snap makes a snapshot of a dataset, as chapter 21 has it.
func (h *house) snap() {
	i := h.some(isHead)
	if i < 0 || h.isFull() || !h.sync() {
		return
	}
	l, n := h.p.Lines[i], h.p.NextId
	of := l.Id
	l.Kind, l.Owner, l.Txg = isSnap, of, h.p.Gen
	h.p.Lines[i].Prev, h.p.Lines[i].Txg, h.p.Lines[i].Dead = n, h.p.Gen, nil
	h.add(l, h.in[of])
	h.sync()
	h.seen["snap"]++
}

// clone makes a dataset of a snapshot.
func (h *house) clone() {
	i := h.some(isSnap)
	if i < 0 || h.isFull() {
		return
	}
	l := h.p.Lines[i]
	h.add(api.Line{Kind: isHead, Owner: h.p.NextId, Prev: l.Id, Txg: h.p.Gen, Key: l.Key, Root: l.Root}, h.in[l.Id])
	h.seen["clone"]++
}

// put puts a change, and what is to stand there, unless there is one already.
func (h *house) put(c api.Change, says string) {
	order := func(a, b api.Change) int {
		return cmp.Compare(a.Set*256+a.Obj*16+a.Index, b.Set*256+b.Obj*16+b.Index)
	}
	i, there := slices.BinarySearchFunc(h.p.Changes, c, order)
	if there {
		return
	}
	h.p.Changes = slices.Insert(slices.Clone(h.p.Changes), i, c)
	h.said[[3]int{c.Set, c.Obj, c.Index}] = says
}

func (h *house) has(set, obj, index int) bool {
	return slices.ContainsFunc(h.p.Changes, func(c api.Change) bool { return c.Set == set && c.Obj == obj && c.Index == index })
}

// place changes one place: by data, by data that is sealed ahead, or to a hole.
func (h *house) place(l api.Line, obj, index int) {
	c, b := api.Change{Set: l.Id, Obj: obj, Index: index}, text(h.c.of(256))
	how := h.c.of(6)
	if h.has(l.Id, obj, index) {
		return
	}
	if how == 0 {
		h.put(c, "")
		return
	}
	if how < 3 && h.p.Store.Count < mostCount && slices.Contains(h.p.Store.Space, unused) {
		x := &plain{p: slowTwin(h.p), birth: h.p.Gen + 1}
		c.Laid = x.seal(h.keys[l.Key], b)
		h.p = x.p
	}
	if how != 2 || c.Laid == none {
		c.Data = b
	}
	h.put(c, string(b))
}

// change changes some object of some dataset.
func (h *house) change() {
	i := h.some(isHead)
	if i < 0 {
		return
	}
	l, obj := h.p.Lines[i], h.c.of(3)
	if h.c.of(9) == 0 {
		obj = h.c.of(16)
	}
	switch h.c.of(7) {
	case 0:
		h.put(api.Change{Set: l.Id, Obj: obj, Index: head}, "")
		for index := range 15 {
			if h.in[l.Id][obj].data[index] != "" && h.c.of(3) > 0 {
				h.put(api.Change{Set: l.Id, Obj: obj, Index: index}, "")
			}
		}
	case 1, 2:
		h.put(api.Change{Set: l.Id, Obj: obj, Index: head, Kind: uint8(1 + h.c.of(7)), Links: h.c.of(256), Size: h.c.of(3841)}, "")
	default:
		for range 1 + h.c.of(3) {
			h.place(l, obj, h.c.of(4)*h.c.of(5)%15)
		}
	}
}

// apply does to the plain trees what the changes tell.
func (h *house) apply(changes []api.Change) {
	for _, c := range changes {
		o := h.in[c.Set][c.Obj]
		if c.Index == head {
			o.kind, o.links, o.size = c.Kind, c.Links, c.Size
		} else {
			o.data[c.Index] = h.said[[3]int{c.Set, c.Obj, c.Index}]
		}
		h.in[c.Set][c.Obj] = o
	}
	for _, things := range h.in {
		maps.DeleteFunc(things, func(_ int, o thing) bool { return o.kind == 0 })
	}
}

// room tells how many blocks chapter 17 says that a sync needs at most, and how many pointers a dead list may come to have.
func room(p api.Pool) (need, gone int) {
	need = (len(p.Lines)+4)/5 + 3
	for _, l := range p.Lines {
		objects, changes := map[int]bool{}, 0
		for _, c := range p.Changes {
			if c.Set != l.Id {
				continue
			}
			changes++
			objects[c.Obj] = true
			if len(c.Data) > 0 && c.Laid == none {
				need++
			}
		}
		d := len(l.Dead)
		if changes > 0 {
			need += len(objects) + 1
			d += changes + 16*len(objects) + 1
		}
		if d > 0 {
			need += (d+15)/16 + 1
		}
		gone = max(gone, d)
	}
	return need, gone
}

func count(p api.Pool, mark byte) (n int) {
	for _, one := range p.Store.Space {
		if one == mark {
			n++
		}
	}
	return n
}

// crowded is p, of whose free blocks only so many are left: they are chosen by lot.
func (c *chance) crowded(p api.Pool, free int) api.Pool {
	p = slowTwin(p)
	for count(p, unused) > free {
		if at := c.of(256); p.Store.Space[at] == unused {
			p.Store.Space[at] = used
		}
	}
	return p
}

// waiting is p, where so many writes wait, to blocks that nothing reads.
func waiting(p api.Pool, many int) api.Pool {
	p = slowTwin(p)
	var more []api.Write
	for range many - len(p.Store.Disk.Waits) {
		more = append(more, api.Write{At: 5, Data: text(5)})
	}
	p.Store.Disk.Waits = append(more, p.Store.Disk.Waits...)
	return p
}

// enough asks that a sync is done where there is just so much room as it needs at most.
func (h *house) enough() {
	need, gone := room(h.p)
	if gone > mostDead || count(h.p, unused) < need {
		return
	}
	h.seen["enough"]++
	p := h.c.crowded(h.p, need)
	// To copy so many writes takes long: they are tried now and then.
	if h.c.of(10) == 0 {
		p = waiting(p, mostWaits-need)
		h.seen["enough writes"]++
	}
	if _, _, e := wantAsPlain(h.t, h.what+", just enough", p); e != api.OK && e != api.ErrIv {
		h.t.Errorf("%s: just enough: %d", h.what, e)
	}
	_, _, e := wantAsPlain(h.t, h.what+", too few", h.c.crowded(h.p, h.c.of(need)))
	h.seen[fmt.Sprintf("too few: %d", e)]++
}

// sync syncs the pool, and tells whether it is done.
func (h *house) sync() bool {
	if h.c.of(3) == 0 {
		h.enough()
	}
	was := h.p
	now, halves, e := wantAsPlain(h.t, h.what, was)
	h.seen[fmt.Sprintf("error %d", e)]++
	if e != api.OK {
		h.drop()
		return false
	}
	h.p = now
	h.apply(was.Changes)
	h.said = map[[3]int]string{}
	h.writes(was, halves)
	h.owners()
	h.contents()
	h.crash(halves)
	h.load()
	return true
}

// drop lets the changes go where there is no room for them, or no number to seal by: what was laid for them is nobody's then.
func (h *house) drop() {
	for _, c := range h.p.Changes {
		if c.Laid != none {
			h.left[c.Laid.At] = true
		}
	}
	h.p.Changes, h.said = nil, map[[3]int]string{}
	h.p.Store.Epoch += 2
	h.p.Store.Count = 0
}

// writes asks that each write of a sync goes to a block that was free, or to the label.
func (h *house) writes(was api.Pool, halves [2]api.Disk) {
	many := len(was.Store.Disk.Waits)
	if !sameDisk(api.Disk{Blocks: was.Store.Disk.Blocks, Waits: was.Store.Disk.Waits}, api.Disk{Blocks: halves[0].Blocks, Waits: halves[0].Waits[:many]}) {
		h.t.Errorf("%s: what waited is turned", h.what)
	}
	for _, w := range halves[0].Waits[many:] {
		if w.At < firstBlock || was.Store.Space[w.At] != unused {
			h.t.Errorf("%s: block %d is written, which was %d", h.what, w.At, was.Store.Space[w.At])
		}
	}
	if l := halves[1].Waits; len(l) != 1 || l[0].At != int(h.p.Gen%4) || len(h.p.Store.Disk.Waits) > 0 {
		h.t.Errorf("%s: behind the first flush: %v", h.what, l)
	}
}

// blocks are those of pointers.
func blocks(l []api.Ptr) map[int]bool {
	all := map[int]bool{}
	for _, p := range l {
		all[p.At] = true
	}
	return all
}

// owners asks that what somebody has is used, what nobody has is free, and that a dataset gave up what its Prev has, and it has not.
func (h *house) owners() {
	x := &plain{p: h.p}
	below := map[int]map[int]bool{}
	all := maps.Clone(h.left)
	for _, l := range h.p.Lines {
		below[l.Id] = blocks(x.walk(l.Root))
		maps.Copy(all, below[l.Id])
		maps.Copy(all, blocks(l.Dead))
	}
	for _, at := range h.p.Meta {
		if all[at] {
			h.t.Errorf("%s: block %d is the pool's own, and another one's", h.what, at)
		}
		all[at] = true
	}
	for at := firstBlock; at < 256; at++ {
		if mark := h.p.Store.Space[at]; mark == later || (mark == used) != all[at] {
			h.t.Errorf("%s: block %d is %d; somebody has it: %t", h.what, at, mark, all[at])
		}
	}
	for _, l := range h.p.Lines {
		gone := maps.Clone(below[l.Prev])
		maps.DeleteFunc(gone, func(at int, _ bool) bool { return below[l.Id][at] })
		if !maps.Equal(gone, blocks(l.Dead)) {
			h.t.Errorf("%s: line %d gave up %v; want %v", h.what, l.Id, blocks(l.Dead), gone)
		}
	}
}

// contents asks that each line has what it should have, and that no two blocks were sealed by one number.
func (h *house) contents() {
	x, by := &plain{p: h.p}, map[uint32]int{}
	for _, l := range h.p.Lines {
		things := map[int]thing{}
		for n, p := range x.ptrs(l.Root) {
			if p == none {
				continue
			}
			o := x.object(p)
			one := thing{kind: o.Kind, links: o.Links, size: o.Size}
			for i, p := range o.Data {
				if p != none {
					k, b := h.keys[l.Key], x.look(p)
					if at, ok := by[p.Iv]; ok && at != p.At {
						h.t.Errorf("%s: blocks %d and %d were sealed by %d", h.what, at, p.At, p.Iv)
					}
					by[p.Iv] = p.At
					if slowTag(k, p.Iv, b) != p.Tag {
						h.t.Errorf("%s: line %d, object %d, place %d: another tag", h.what, l.Id, n, i)
					}
					one.data[i] = string(slowCipher(k, p.Iv, b))
				}
			}
			things[n] = one
		}
		if !maps.Equal(things, h.in[l.Id]) {
			h.t.Errorf("%s: line %d has other objects", h.what, l.Id)
		}
	}
}

// lasting is the pool of the first label on a disk, if there is one.
func lasting(t *testing.T, d api.Disk) (api.Pool, bool) {
	t.Helper()
	all, e := label.Find(d)
	if e != api.OK {
		t.Fatal(e)
	}
	if len(all) == 0 {
		return api.Pool{}, false
	}
	p, e := txg.Load(d, all[0])
	if e != api.OK {
		t.Fatal(e)
	}
	return p, true
}

// as is what a pool is when it is read back: nothing is loaded, no number was given out, and what nobody has is free.
func (h *house) as(p api.Pool) api.Pool {
	p = slowTwin(p)
	p.Loaded, p.Store.Count = make([][]byte, 8), 0
	for at := range h.left {
		p.Store.Space[at] = unused
	}
	return p
}

// crash lets power fail ahead of each flush, and keeps by lot what waits: what lasts is the last pool, or, with its label, this one.
func (h *house) crash(halves [2]api.Disk) {
	for phase, d := range halves {
		for range 3 {
			keep := make([]bool, len(d.Waits))
			for i := range keep {
				keep[i] = h.c.of(3) > 0
			}
			after, e := dev.Crash(d, keep)
			if e != api.OK {
				h.t.Fatal(e)
			}
			want := h.last
			if phase == 1 && keep[0] {
				want = h.as(h.p)
			}
			p, ok := lasting(h.t, after)
			if ok != (want.Gen > 0) {
				h.t.Errorf("%s: phase %d: a label: %t", h.what, phase+1, ok)
			}
			if ok {
				want.Store.Disk = after
				if d := differ(p, want); d != "" {
					h.t.Errorf("%s: phase %d: %s", h.what, phase+1, d)
				}
			}
		}
	}
}

// load asks that the pool of the label that was put is the pool.
func (h *house) load() {
	p, ok := lasting(h.t, h.p.Store.Disk)
	if d := differ(p, h.as(h.p)); !ok || d != "" {
		h.t.Errorf("%s: loaded: %t, %s", h.what, ok, d)
	}
	h.last = h.as(h.p)
}

// leave makes some free blocks used, by nobody.
func (h *house) leave() {
	for range 1 + h.c.of(4) {
		if at := h.c.of(256); h.p.Store.Space[at] == unused {
			h.p = slowTwin(h.p)
			h.p.Store.Space[at] = used
			h.left[at] = true
		}
	}
}

// unload tries a sync without keys.
func (h *house) unload() {
	p := slowTwin(h.p)
	p.Loaded = make([][]byte, 8)
	_, _, e := wantAsPlain(h.t, h.what+", without keys", p)
	h.seen[fmt.Sprintf("without keys: %d", e)]++
}

// run does so many steps by lot.
func (h *house) run(steps int) {
	for range steps {
		switch h.c.of(16) {
		case 0:
			h.head()
		case 1:
			h.snap()
		case 2:
			h.clone()
		case 3, 4, 5:
			h.sync()
		case 6:
			h.unload()
		case 7:
			if h.c.of(8) == 0 {
				h.leave()
			}
		default:
			h.change()
		}
	}
	h.sync()
}

// wantAsPlain asks that a pool is synced as the plain reading has it, or refused by its error; also within.
func wantAsPlain(t *testing.T, what string, p api.Pool) (api.Pool, [2]api.Disk, api.Errno) {
	t.Helper()
	want, halves, e := plainSync(p)
	got, told := txg.Sync(p)
	if told != e {
		t.Errorf("%s: Sync: %d; want %d", what, told, e)
	}
	if d := differ(got, want); d != "" {
		t.Errorf("%s: Sync: %s", what, d)
	}
	if e == api.OK && txg.Check(got) != api.OK {
		t.Errorf("%s: what Sync tells may not be", what)
	}
	for i, disk := range halves {
		if d, told := txg.Half(p, i+1); told != e || !sameDisk(d, disk) {
			t.Errorf("%s: Half(.., %d): %d; want %d; another disk: %t", what, i+1, told, e, !sameDisk(d, disk))
		}
	}
	return got, halves, e
}

// wantSync asks for the error by hand, too, and tells the pool behind the sync.
func wantSync(t *testing.T, what string, p api.Pool, want api.Errno) api.Pool {
	t.Helper()
	got, _, e := wantAsPlain(t, what, p)
	if e != want {
		t.Errorf("%s: Sync: %d; want %d", what, e, want)
	}
	return got
}

func wantCheck(t *testing.T, what string, p api.Pool, want api.Errno) {
	t.Helper()
	if e := txg.Check(p); e != want {
		t.Errorf("%s: Check = %d; want %d", what, e, want)
	}
	if may := plainMayBe(p); may != (want == api.OK) {
		t.Errorf("%s: by the plain reading it may be: %t", what, may)
	}
}

// wantLoad asks that a label's pool is as the plain reading has it, or refused by its error, and for the error by hand.
func wantLoad(t *testing.T, what string, d api.Disk, l api.Label, want api.Errno) api.Pool {
	t.Helper()
	p, e := plainLoad(d, l)
	got, told := txg.Load(d, l)
	if told != want || e != want {
		t.Errorf("%s: Load: %d; by the plain reading %d; want %d", what, told, e, want)
	}
	if d := differ(got, p); d != "" {
		t.Errorf("%s: Load: %s", what, d)
	}
	return got
}

// shelf is a disk on which blocks are put by hand, in an order that does not rise.
type shelf struct {
	d    api.Disk
	many int
}

func newShelf() *shelf {
	x := &shelf{}
	for at := range 256 {
		x.d.Blocks = append(x.d.Blocks, text(at))
	}
	return x
}

func (x *shelf) put(b []byte) api.Ptr {
	at := 12 + (x.many*101+57)%244
	x.many++
	x.d.Blocks[at] = bytes.Clone(b)
	return api.Ptr{At: at, Birth: uint32(1 + x.many%7), Sum: slowSum(b)}
}

// dead puts a list's rows, and the own one.
func (x *shelf) dead(l []api.Ptr) api.Ptr {
	if len(l) == 0 {
		return none
	}
	var rows []api.Ptr
	for row := range slices.Chunk(l, 16) {
		rows = append(rows, x.put(slowRow(row)))
	}
	return x.put(slowRow(rows))
}

// object puts an object with data at some places.
func (x *shelf) object(n int, places ...int) api.Ptr {
	o := api.Object{Kind: 1, Links: n, Size: n * 10, Data: make([]api.Ptr, 15)}
	for _, i := range places {
		o.Data[i] = x.put(text(n + i))
		o.Data[i].Iv, o.Data[i].Tag = uint32(65536+i), uint32(n*i+1)
	}
	return x.put(slowObject(o))
}

// root puts a dataset's row, with objects at some places.
func (x *shelf) root(objects map[int]api.Ptr) api.Ptr {
	row := make([]api.Ptr, 16)
	for n, p := range objects {
		row[n] = p
	}
	return x.put(slowRow(row))
}

// pages is what a sync lays for the pool itself, as bytes, which may be turned one by one ahead of being put.
type pages struct {
	x     *shelf
	lines [][]byte
	keys  []byte
	root  func(lines []api.Ptr, keys api.Ptr) []byte
}

// pagesOf are those of a pool's lines, keys and numbers.
func pagesOf(x *shelf, p api.Pool) *pages {
	y := &pages{x: x, keys: slowKeys(p.Keys)}
	for at := 0; at == 0 || at < len(p.Lines); at += 5 {
		var b []byte
		for i := at; i < min(at+5, len(p.Lines)); i++ {
			b = append(b, slowLine(p.Lines[i], x.dead(p.Lines[i].Dead))...)
		}
		y.lines = append(y.lines, filled(b))
	}
	y.root = func(lines []api.Ptr, keys api.Ptr) []byte {
		return slowRoot(p.NextId, p.NextGuid, len(p.Lines), lines, keys)
	}
	return y
}

// laid puts them, and tells the disk and its label.
func (y *pages) laid() (api.Disk, api.Label) {
	var lines []api.Ptr
	for _, b := range y.lines {
		lines = append(lines, y.x.put(b))
	}
	root := y.x.put(y.root(lines, y.x.put(y.keys)))
	return y.x.d, api.Label{Gen: 300, Epoch: 7, Root: root}
}
