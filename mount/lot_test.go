package mount_test

import (
	"cmp"
	"fmt"
	"maps"
	"slices"
	"testing"

	"charterhouse/api"
	"charterhouse/log"
	"charterhouse/set"
	"charterhouse/store"
	"charterhouse/txg"
)

// chance is a number that hangs on a seed alone.
type chance uint32

func chances(seed int) *chance {
	c := chance(uint32(seed)*2654435761 + 12345)
	return &c
}

func (c *chance) of(n int) int {
	*c = *c*1664525 + 1013904223
	return int(*c>>8) % n
}

// marks tells by lot for each write that waits whether it is kept.
func (c *chance) marks(d api.Disk) []bool {
	keep, least := make([]bool, len(d.Waits)), c.of(5)
	for i := range keep {
		keep[i] = c.of(4) >= least
	}
	return keep
}

// books are what two pools gave out: which block was sealed by a key and a number, which line has a Guid; and what was done.
type books struct {
	sealed map[string]string
	guids  map[uint32]string
	seen   map[string]int
}

// house is a pool, and what should be in it by plain trees: now, and if power failed.
type house struct {
	*books
	t     *testing.T
	what  string
	side  int
	c     *chance
	p     api.Pool
	now   map[int]things
	lasts map[int]things
	lines api.Pool // those of the last sync
	last  uint32   // the last number that was given out
}

func newHouse(t *testing.T, b *books, seed, side int) *house {
	h := &house{books: b, t: t, what: fmt.Sprint("seed ", seed, ", side ", side), side: side, c: chances(seed*2 + side), now: map[int]things{}, lasts: map[int]things{}}
	h.p = formatted(t, side)
	h.lines = h.p
	return h
}

func (h *house) error(what string, told ...any) {
	h.t.Helper()
	h.t.Errorf("%s: %s: %s", h.what, what, fmt.Sprint(told...))
}

// line makes a dataset, or, of a line that is there, a snapshot or a clone. Both houses have the same keys.
func (h *house) line() {
	if len(h.p.Lines) > 6 || len(h.p.Changes) > 0 && !h.sync() {
		return
	}
	p, now := h.p, twins(h.now)
	h.p = slowTwin(h.p)
	id := h.p.NextId
	l := api.Line{Id: id, Kind: isHead, Owner: id, Txg: h.p.Gen, Guid: h.p.NextGuid, Key: len(h.p.Lines)}
	h.now[id] = things{}
	if i := h.c.of(2 + len(h.p.Lines)); i < len(h.p.Lines) {
		of := &h.p.Lines[i]
		l.Key, l.Root, l.Prev = of.Key, of.Root, of.Id
		h.now[id] = maps.Clone(h.now[of.Id])
		if of.Kind == isHead {
			l.Kind, l.Owner, l.Prev, l.Dead = isSnap, of.Id, of.Prev, of.Dead
			of.Prev, of.Txg, of.Dead = id, h.p.Gen, nil
		}
	} else {
		h.p.Keys[l.Key], h.p.Loaded[l.Key] = wrapped(l.Key), key(l.Key)
	}
	h.p.Lines = append(h.p.Lines, l)
	h.p.NextId++
	h.p.NextGuid += 2
	if !h.sync() {
		// Power failed on the way; the line may be there or not.
		return
	}
	if len(h.p.Lines) == len(p.Lines) {
		h.error("no line", now)
	}
	h.seen[fmt.Sprint("line of kind ", l.Kind)]++
}

// some tells the number of a dataset, by lot; 0, if there is none.
func (h *house) some() int {
	var all []int
	for _, l := range h.p.Lines {
		if l.Kind == isHead {
			all = append(all, l.Id)
		}
	}
	if len(all) == 0 {
		return 0
	}
	return all[h.c.of(len(all))]
}

func place(c api.Change) int {
	return c.Obj*16 + c.Index
}

// put puts a change, as chapter 20 has it: one that was there goes, and its Laid is given up.
func (h *house) put(c api.Change) {
	i, there := slices.BinarySearchFunc(h.p.Changes, c, func(a, b api.Change) int {
		return cmp.Or(cmp.Compare(a.Set, b.Set), cmp.Compare(place(a), place(b)))
	})
	if !there {
		h.p.Changes = slices.Insert(slices.Clone(h.p.Changes), i, c)
		return
	}
	if was := h.p.Changes[i].Laid; was != none {
		s, e := store.Give(h.p.Store, was)
		if e != api.OK {
			h.t.Fatal(h.what, "not given up", e)
		}
		h.p.Store = s
		h.seen["given up"]++
	}
	h.p.Changes = slices.Clone(h.p.Changes)
	h.p.Changes[i] = c
}

// change changes some object of some dataset: its head, some of its places, or that it is there at all.
func (h *house) change() {
	id, obj := h.some(), h.c.of(3)
	if id == 0 {
		return
	}
	o := h.now[id][obj]
	if o.kind > 0 && h.c.of(9) == 0 {
		for i, b := range o.data {
			if b != "" || slices.ContainsFunc(h.p.Changes, func(c api.Change) bool { return c.Set == id && c.Obj == obj && c.Index == i }) {
				h.put(hole(id, obj, i))
			}
		}
		h.put(heading(id, obj, 0))
		delete(h.now[id], obj)
		return
	}
	if o.kind == 0 || h.c.of(5) == 0 {
		c := api.Change{Set: id, Obj: obj, Index: head, Kind: uint8(1 + h.c.of(7)), Links: h.c.of(256), Size: h.c.of(3841)}
		h.put(c)
		o.kind, o.links, o.size = c.Kind, c.Links, c.Size
	}
	for range h.c.of(5) {
		c := api.Change{Set: id, Obj: obj, Index: h.c.of(5) * h.c.of(5) % 15}
		if h.c.of(4) > 0 {
			c.Data = text(h.c.of(256))
		}
		h.put(c)
		o.data[c.Index] = string(c.Data)
	}
	h.now[id][obj] = o
}

// told notes what a pool's sync or commit has given out; also where power fails behind it all of that was.
func (h *house) told(p api.Pool) {
	var all []api.Ptr
	note := func(l api.Line, p api.Ptr) {
		if p.Iv == 0 {
			return
		}
		all = append(all, p)
		name, is := fmt.Sprint(key(l.Key), p.Iv), fmt.Sprint("side ", h.side, ": ", p)
		if was, ok := h.sealed[name]; ok && was != is {
			h.error("two blocks by one number", was, " and ", is)
		}
		h.sealed[name] = is
	}
	for _, l := range p.Lines {
		below, e := set.Walk(p.Store, l.Root, 0)
		if e != api.OK {
			h.error("what is below a root", e)
		}
		for _, at := range below {
			note(l, at)
		}
		for _, c := range p.Changes {
			if c.Set == l.Id {
				note(l, c.Laid)
			}
		}
		is := fmt.Sprint("side ", h.side, ", line ", l.Id)
		if was, ok := h.guids[l.Guid]; ok && was != is || int(l.Guid%2) != (1+h.side)%2 {
			h.error("two of one Guid, or one of the other side's", was, " ", is)
		}
		h.guids[l.Guid] = is
	}
	for _, at := range all {
		h.last = max(h.last, at.Iv)
	}
}

// owners asks that what somebody has is used, and what nobody has is free.
func (h *house) owners(p api.Pool) {
	all := map[int]bool{}
	take := func(what string, at int) {
		if what != "" && all[at] {
			h.error("another one's block is", what, at)
		}
		all[at] = true
	}
	for _, l := range p.Lines {
		below, e := set.Walk(p.Store, l.Root, 0)
		if e != api.OK {
			h.error("what is below a root", e)
		}
		for _, at := range append(below, l.Dead...) {
			take("", at.At)
		}
	}
	for _, at := range p.Meta {
		take("the pool's own", at)
	}
	for at := firstBlock; at < 256; at++ {
		if mark := p.Store.Space[at]; (mark == used) != all[at] || mark == later {
			h.error("block ", at, " is ", mark, "; somebody has it: ", all[at])
		}
	}
}

// state is what may last: what lines have, and the lines themselves.
type state struct {
	has   map[int]things
	lines api.Pool
}

// fails lets power fail at a disk: what is opened is one of what may last, whole. It tells which.
func (h *house) fails(what string, d api.Disk, may ...state) (p api.Pool, which int) {
	p = wantCrash(h.t, h.what, on(h.p, d), h.c.marks(d), api.OK)
	h.owners(p)
	if p.Store.Epoch<<16 <= h.last || p.Store.Epoch%2 != uint32(1+h.side)%2 {
		h.error("Epoch ", p.Store.Epoch, ", but number ", h.last, " was given out")
	}
	has := contents(h.t, p)
	which = slices.IndexFunc(may, func(s state) bool { return sameThings(s.has, has) && len(s.lines.Lines) == len(p.Lines) })
	if which < 0 {
		h.error(what, "other objects last than may")
		return p, 0
	}
	wantLines(h.t, h.what, p, may[which].lines)
	h.seen[fmt.Sprint(what, ": ", which)]++
	return p, which
}

// goOn goes on with a pool that was opened, within whose opening power fails some times more.
func (h *house) goOn(p api.Pool, s state) {
	for h.c.of(3) == 0 {
		half := opening(h.t, p.Store.Disk)
		d, e := txg.Half(half, 1+h.c.of(2))
		if e != api.OK {
			h.t.Fatal(h.what, e)
		}
		h.p = p
		p, _ = h.fails("within an opening", d, s)
	}
	h.p, h.now, h.lasts, h.lines = with(p), twins(s.has), twins(s.has), s.lines
}

// ahead is what lasts.
func (h *house) ahead() state { return state{h.lasts, h.lines} }

// crash lets power fail at the pool as it is.
func (h *house) crash() {
	h.seen[fmt.Sprint("crash, logged ", min(h.p.Logged, 1))]++
	s := h.ahead()
	p, _ := h.fails("between", h.p.Store.Disk, s)
	h.goOn(p, s)
}

// commit commits a dataset; where it is refused nothing is done. Sometimes power fails within.
func (h *house) commit(id int) {
	q, e := log.Commit(h.p, id)
	h.seen[fmt.Sprint("commit: ", int(e))]++
	if e != api.OK {
		return
	}
	h.told(q)
	behind := state{twins(h.lasts), h.lines}
	behind.has[id] = maps.Clone(h.now[id])
	if h.c.of(4) > 0 {
		h.p, h.lasts = q, behind.has
		return
	}
	phase, may := 1+h.c.of(2), []state{h.ahead(), behind}
	d, e := log.Half(h.p, id, phase)
	if e != api.OK {
		h.t.Fatal(h.what, e)
	}
	p, which := h.fails(fmt.Sprint("within a commit, ", phase), d, may[:phase]...)
	h.goOn(p, may[which])
}

// sync syncs the pool, and tells whether it is done: where it is refused, or sometimes, power fails.
func (h *house) sync() bool {
	p, e := txg.Sync(h.p)
	h.seen[fmt.Sprint("sync: ", int(e))]++
	if e != api.OK {
		h.crash()
		return false
	}
	h.told(p)
	behind := state{twins(h.now), p}
	if h.c.of(4) > 0 {
		h.p, h.lasts, h.lines = p, behind.has, p
		return true
	}
	phase, may := 1+h.c.of(2), []state{h.ahead(), behind}
	d, e := txg.Half(h.p, phase)
	if e != api.OK {
		h.t.Fatal(h.what, e)
	}
	p, which := h.fails(fmt.Sprint("within a sync, ", phase), d, may[:phase]...)
	h.goOn(p, may[which])
	return false
}

// run does so many steps by lot.
func (h *house) run(steps int) {
	for range steps {
		switch h.c.of(20) {
		case 0, 1:
			h.line()
		case 2:
			h.crash()
		case 3:
			h.sync()
		case 4, 5, 6, 7, 8:
			if id := h.some(); id > 0 {
				h.commit(id)
			}
		default:
			h.change()
		}
		if h.c.of(5) == 0 && !sameThings(contents(h.t, h.p), h.now) {
			h.error("other objects")
		}
	}
}

// Runs by lot on two pools of unlike sides that have the same keys: datasets, snapshots, clones, changes, commits, syncs, and crashes within all of that and within openings, beside plain trees of bytes. W2, W3 and W4, as far as P19.3 speaks of them.
func TestP193ByLot(t *testing.T) {
	all := map[string]int{}
	for seed := range 12 {
		b := &books{sealed: map[string]string{}, guids: map[uint32]string{}, seen: all}
		houses := []*house{newHouse(t, b, seed, 0), newHouse(t, b, seed, 1)}
		for range 8 {
			for _, h := range houses {
				h.run(12)
			}
		}
	}
	for what, least := range map[string]int{
		"line of kind 1": 20, "line of kind 2": 10, "commit: 0": 100, "given up": 20,
		"crash, logged 0": 10, "crash, logged 1": 10, "between: 0": 20, "within an opening: 0": 50,
		"within a commit, 1: 0": 20, "within a commit, 2: 0": 10, "within a commit, 2: 1": 10,
		"within a sync, 1: 0": 10, "within a sync, 2: 0": 3, "within a sync, 2: 1": 3,
	} {
		if all[what] < least {
			t.Errorf("%s: %d times", what, all[what])
		}
	}
}
