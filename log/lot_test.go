package log_test

import (
	"bytes"
	"cmp"
	"fmt"
	"maps"
	"slices"
	"testing"

	"charterhouse/api"
	"charterhouse/dev"
	"charterhouse/label"
	"charterhouse/log"
	"charterhouse/set"
	"charterhouse/store"
	"charterhouse/txg"
)

// chance is a number that hangs on a seed alone.
type chance uint32

func chances(seed int) *chance {
	c := chance(uint32(seed)*2654435761 + 12345)
	return &c
}

func (c *chance) of(n int) int {
	*c = *c*1664525 + 1013904223
	return int(*c>>8) % n
}

// marks tells by lot for each write that waits whether it is kept.
func (c *chance) marks(d api.Disk) []bool {
	keep, least := make([]bool, len(d.Waits)), c.of(5)
	for i := range keep {
		keep[i] = c.of(4) >= least
	}
	return keep
}

// thing is an object as plain bytes; a place without any is a hole.
type thing struct {
	kind  uint8
	links int
	size  int
	data  [15]string
}

// things are those of one line.
type things map[int]thing

// house is a pool, and what should be in it by plain trees: now, and if power failed.
type house struct {
	t      *testing.T
	what   string
	c      *chance
	p      api.Pool
	now    map[int]things
	lasts  map[int]things
	logged []api.Change      // what the log has, of all datasets
	keys   [8][]byte         // all that were made
	by     map[string]string // what was sealed by a key and a number
	seen   map[string]int    // what was done, and which errors were told
}

func newHouse(t *testing.T, seed int) *house {
	h := &house{t: t, what: fmt.Sprint("seed ", seed), c: chances(seed), p: txg.New(), now: map[int]things{}, by: map[string]string{}, seen: map[string]int{}}
	h.sync()
	return h
}

func (h *house) error(what string, told ...any) {
	h.t.Helper()
	h.t.Errorf("%s: %s: %s", h.what, what, fmt.Sprint(told...))
}

// twins are plain trees that no one else has.
func twins(of map[int]things) map[int]things {
	to := map[int]things{}
	for id, l := range of {
		to[id] = maps.Clone(l)
	}
	return to
}

func sameThings(a, b map[int]things) bool {
	return maps.EqualFunc(a, b, func(a, b things) bool { return maps.Equal(a, b) })
}

// line makes a dataset with a key of its own, or, of a line that is there, a snapshot or a clone.
func (h *house) line() {
	id := h.p.NextId
	if len(h.p.Lines) > 7 || len(h.p.Changes) > 0 && !h.sync() {
		return
	}
	l := api.Line{Id: id, Kind: isHead, Owner: id, Txg: h.p.Gen, Guid: h.p.NextGuid, Key: len(h.p.Lines)}
	h.now[id] = things{}
	if i := h.c.of(2 + len(h.p.Lines)); i < len(h.p.Lines) {
		of := &h.p.Lines[i]
		l.Key, l.Root, l.Prev = of.Key, of.Root, of.Id
		h.now[id] = maps.Clone(h.now[of.Id])
		if of.Kind == isHead {
			l.Kind, l.Owner, l.Prev, l.Dead = isSnap, of.Id, of.Prev, of.Dead
			of.Prev, of.Txg, of.Dead = id, h.p.Gen, nil
		}
	} else {
		h.p.Keys[l.Key], h.p.Loaded[l.Key], h.keys[l.Key] = wrapped(id), key(id), key(id)
	}
	h.p.Lines = append(h.p.Lines, l)
	h.p.NextId++
	h.p.NextGuid += 2
	if !h.sync() {
		h.t.Fatal(h.what, "no line")
	}
	h.seen[fmt.Sprint("line of kind ", l.Kind)]++
}

// some tells the number of a dataset, by lot; 0, if there is none.
func (h *house) some() int {
	var all []int
	for _, l := range h.p.Lines {
		if l.Kind == isHead {
			all = append(all, l.Id)
		}
	}
	if len(all) == 0 {
		return 0
	}
	return all[h.c.of(len(all))]
}

// put puts a change, as chapter 20 has it: one that was there goes, and its Laid is given up.
func (h *house) put(c api.Change) {
	i, there := slices.BinarySearchFunc(h.p.Changes, c, func(a, b api.Change) int {
		return cmp.Or(cmp.Compare(a.Set, b.Set), cmp.Compare(place(a), place(b)))
	})
	if !there {
		h.p.Changes = slices.Insert(slices.Clone(h.p.Changes), i, c)
		return
	}
	if was := h.p.Changes[i].Laid; was != none {
		s, e := store.Give(h.p.Store, was)
		if e != api.OK {
			h.t.Fatal(h.what, "not given up", e)
		}
		h.p.Store = s
		h.seen["given up"]++
	}
	h.p.Changes = slices.Clone(h.p.Changes)
	h.p.Changes[i] = c
}

// change changes some object of some dataset: its head, some of its places, or that it is there at all.
func (h *house) change() {
	id, obj := h.some(), h.c.of(3)
	if h.c.of(9) == 0 {
		obj = h.c.of(16)
	}
	if id == 0 {
		return
	}
	o := h.now[id][obj]
	if o.kind > 0 && h.c.of(9) == 0 {
		for i, b := range o.data {
			if b != "" || slices.ContainsFunc(h.p.Changes, func(c api.Change) bool { return c.Set == id && c.Obj == obj && c.Index == i }) {
				h.put(hole(id, obj, i))
			}
		}
		h.put(heading(id, obj, 0))
		delete(h.now[id], obj)
		return
	}
	if o.kind == 0 || h.c.of(5) == 0 {
		c := api.Change{Set: id, Obj: obj, Index: head, Kind: uint8(1 + h.c.of(7)), Links: h.c.of(256), Size: h.c.of(3841)}
		h.put(c)
		o.kind, o.links, o.size = c.Kind, c.Links, c.Size
	}
	for range h.c.of(5) {
		c := api.Change{Set: id, Obj: obj, Index: h.c.of(5) * h.c.of(5) % 15}
		if h.c.of(4) > 0 {
			c.Data = text(h.c.of(256))
		}
		h.put(c)
		o.data[c.Index] = string(c.Data)
	}
	h.now[id][obj] = o
}

// openAt tells what stands at a pointer as key sealed it, and asks that no other one was sealed by its number.
func (h *house) openAt(s api.Store, p api.Ptr, key []byte) string {
	if p == none {
		return ""
	}
	b, e := store.Open(s, p, key)
	if e != api.OK {
		h.error("not opened", p, e)
	}
	was := fmt.Sprint(key, p.Iv)
	if other, ok := h.by[was]; ok && other != string(b) {
		h.error("two by one number", p)
	}
	h.by[was] = string(b)
	return string(b)
}

// contents tells what a pool has by plain trees, its changes included.
func (h *house) contents(p api.Pool) map[int]things {
	all := map[int]things{}
	for _, l := range p.Lines {
		all[l.Id] = things{}
		for n := range 16 {
			var one thing
			o, e := set.Object(p.Store, l.Root, n)
			if e != api.OK && e != api.ErrNone {
				h.error("an object", l.Id, n, e)
			}
			one.kind, one.links, one.size = o.Kind, o.Links, o.Size
			for i, at := range o.Data {
				one.data[i] = h.openAt(p.Store, at, h.keys[l.Key])
			}
			for _, c := range ofSet(p.Changes, l.Id) {
				if c.Obj != n {
					continue
				}
				if c.Index == head {
					one.kind, one.links, one.size = c.Kind, c.Links, c.Size
					continue
				}
				one.data[c.Index] = h.openAt(p.Store, c.Laid, h.keys[l.Key])
				if len(c.Data) > 0 {
					if c.Laid != none && one.data[c.Index] != string(c.Data) {
						h.error("its Data is another one than what was laid", c)
					}
					one.data[c.Index] = string(c.Data)
				}
			}
			if one.kind > 0 {
				all[l.Id][n] = one
			}
		}
	}
	return all
}

// owners asks that what somebody has is used, and what nobody has is free.
func (h *house) owners(p api.Pool) {
	all := map[int]bool{}
	take := func(what string, at int) {
		if what != "" && all[at] {
			h.error("another one's block is", what, at)
		}
		all[at] = true
	}
	for _, l := range p.Lines {
		below, e := set.Walk(p.Store, l.Root, 0)
		if e != api.OK {
			h.error("what is below a root", e)
		}
		for _, at := range append(below, l.Dead...) {
			take("", at.At)
		}
	}
	for _, at := range p.Meta {
		take("the pool's own", at)
	}
	for _, c := range p.Changes {
		if c.Laid != none {
			take("what is laid", c.Laid.At)
		}
	}
	for at := firstBlock; at < 256; at++ {
		if mark := p.Store.Space[at]; (mark == used) != all[at] || mark == later {
			h.error("block ", at, " is ", mark, "; somebody has it: ", all[at])
		}
	}
}

// opened is the pool of the last label on a disk, with its log.
func (h *house) opened(d api.Disk) api.Pool {
	h.t.Helper()
	all, e := label.Find(d)
	if e != api.OK || len(all) == 0 {
		h.t.Fatal(h.what, all, e)
	}
	p, e := txg.Load(d, all[0])
	if e != api.OK {
		h.t.Fatal(h.what, "Load", e)
	}
	return wantReplay(h.t, h.what, p, api.OK)
}

// fails lets power fail at a disk, and tells which of the trees that may last then did: just one of them, whole.
func (h *house) fails(what string, d api.Disk, may ...map[int]things) {
	for range 2 {
		after, e := dev.Crash(d, h.c.marks(d))
		if e != api.OK {
			h.t.Fatal(h.what, e)
		}
		p := h.opened(after)
		h.owners(p)
		has := h.contents(p)
		which := slices.IndexFunc(may, func(l map[int]things) bool { return sameThings(l, has) })
		if which < 0 {
			h.error(what, "another tree lasts than may")
		}
		h.seen[fmt.Sprint(what, ": ", which)]++
	}
}

// commit commits a dataset; where it is refused nothing is done.
func (h *house) commit(id int) {
	q, halves, e := plainCommit(h.p, id)
	got := wantCommit(h.t, h.what, h.p, id, e)
	h.seen[fmt.Sprint("commit: ", int(e))]++
	if e != api.OK {
		if e == api.ErrIv || e == api.ErrFull {
			h.crash()
		}
		return
	}
	before, behind := twins(h.lasts), twins(h.lasts)
	behind[id] = maps.Clone(h.now[id])
	if len(ofSet(h.p.Changes, id)) == 0 {
		before, behind = h.lasts, h.lasts
	}
	h.fails("within a commit, first", halves[0], before)
	h.fails("within a commit, second", halves[1], before, behind)
	if got.Logged-h.p.Logged != (len(ofSet(q.Changes, id))+11)/12 {
		h.error("so many are logged", got.Logged)
	}
	h.p, h.lasts = got, behind
	own := slices.Clone(ofSet(q.Changes, id))
	for i := range own {
		own[i].Data = nil
	}
	h.logged = slices.Concat(slices.DeleteFunc(h.logged, func(c api.Change) bool { return c.Set == id }), own)
	slices.SortFunc(h.logged, func(a, b api.Change) int { return cmp.Or(cmp.Compare(a.Set, b.Set), cmp.Compare(place(a), place(b))) })
}

// sync syncs the pool, and tells whether it is done; where it is refused power fails.
func (h *house) sync() bool {
	for phase := 1; phase < 3; phase++ {
		d, e := txg.Half(h.p, phase)
		if e == api.OK && h.p.Gen > 0 {
			h.fails(fmt.Sprint("within a sync, ", phase), d, h.lasts, h.now)
		}
	}
	p, e := txg.Sync(h.p)
	h.seen[fmt.Sprint("sync: ", int(e))]++
	if e != api.OK {
		h.crash()
		return false
	}
	h.p, h.lasts, h.logged = p, twins(h.now), nil
	return true
}

// crash lets power fail, and opens what is left, as chapter 19 has it.
func (h *house) crash() {
	after, e := dev.Crash(h.p.Store.Disk, h.c.marks(h.p.Store.Disk))
	if e != api.OK {
		h.t.Fatal(h.what, e)
	}
	p, logged := h.opened(after), h.p.Logged
	p.Store.Epoch = h.p.Store.Epoch + 2
	for i, k := range h.keys {
		p.Loaded[i] = bytes.Clone(k)
	}
	if p.Logged != logged {
		h.error("so many are logged", p.Logged, ", but ", logged, " were")
	}
	h.p, h.now = p, twins(h.lasts)
	h.seen[fmt.Sprint("crash, logged ", min(logged, 1))]++
	if !h.sync() {
		h.t.Fatal(h.what, "not opened")
	}
}

// check asks for all that holds between two steps.
func (h *house) check() {
	if !sameThings(h.contents(h.p), h.now) {
		h.error("other objects")
	}
	h.fails("between", h.p.Store.Disk, h.lasts)
	p := h.opened(h.p.Store.Disk)
	if fmt.Sprint(p.Changes) != fmt.Sprint(h.logged) || p.Logged != h.p.Logged {
		h.error("replayed", p.Changes, " of ", p.Logged, "; want ", h.logged, " of ", h.p.Logged)
	}
}

// run does so many steps by lot.
func (h *house) run(steps int) {
	for range steps {
		switch h.c.of(20) {
		case 0:
			h.line()
		case 1:
			h.crash()
		case 2:
			h.sync()
		case 3, 4, 5, 6, 7, 8:
			if id := h.some(); id > 0 {
				h.commit(id)
			}
		default:
			h.change()
		}
		if h.c.of(5) == 0 {
			h.check()
		}
	}
}

// Runs by lot: datasets, snapshots, clones, changes, commits, syncs and crashes, beside the plain reading of the document and plain trees of bytes. W2 and W3, as far as P18.5 speaks of them, and that no number is used twice.
func TestP185ByLot(t *testing.T) {
	all := map[string]int{}
	for seed := range 9 {
		h := newHouse(t, seed)
		if seed%4 == 1 {
			// So there come to be too few numbers to seal by.
			h.p.Store.Count = mostCount - 9
		}
		h.run(120)
		for what, n := range h.seen {
			all[what] += n
		}
	}
	for what, least := range map[string]int{
		"line of kind 1": 20, "line of kind 2": 10, "commit: 0": 100, "given up": 20, "commit: 180": 3,
		"crash, logged 0": 15, "crash, logged 1": 15, "between: 0": 100,
		"within a commit, first: 0": 100, "within a commit, second: 0": 30, "within a commit, second: 1": 30,
		"within a sync, 1: 0": 50, "within a sync, 2: 0": 50, "within a sync, 2: 1": 20,
	} {
		if all[what] < least {
			t.Errorf("%s: %d times", what, all[what])
		}
	}
}

// Each choice of what is kept, of a commit of eight blocks: nothing of it is replayed but by all.
func TestP185EachChoice(t *testing.T) {
	h := newHouse(t, 0)
	for len(h.p.Lines) < 1 {
		h.line()
	}
	id := h.p.Lines[0].Id
	h.p.Changes = puts(id, 90)
	d, e := log.Half(h.p, id, 2)
	if e != api.OK || len(d.Waits) != 8 {
		t.Fatal(len(d.Waits), e)
	}
	for n := range 256 {
		keep := make([]bool, 8)
		for i := range keep {
			keep[i] = n>>i&1 > 0
		}
		after, e := dev.Crash(d, keep)
		if e != api.OK {
			t.Fatal(e)
		}
		if p := h.opened(after); n == 255 && (len(p.Changes) != 90 || p.Logged != 8) || n < 255 && len(p.Changes)+p.Logged > 0 {
			t.Errorf("choice %d: %d changes, %d logged", n, len(p.Changes), p.Logged)
		}
	}
	d, e = log.Half(h.p, id, 1)
	if e != api.OK || len(d.Waits) != 90 {
		t.Fatal(len(d.Waits), e)
	}
	for n := range 90 {
		keep := make([]bool, 90)
		keep[n] = true
		after, e := dev.Crash(d, keep)
		if e != api.OK {
			t.Fatal(e)
		}
		if p := h.opened(after); len(p.Changes)+p.Logged > 0 {
			t.Errorf("write %d alone: %d changes, %d logged", n, len(p.Changes), p.Logged)
		}
	}
}
