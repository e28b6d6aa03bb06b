package data_test

import (
	"fmt"
	"maps"
	"slices"
	"testing"

	"charterhouse/api"
	"charterhouse/data"
	"charterhouse/log"
	"charterhouse/mount"
	"charterhouse/set"
	"charterhouse/txg"
)

// chance is a number that hangs on a seed alone.
type chance uint32

func chances(seed int) *chance {
	c := chance(uint32(seed)*2654435761 + 12345)
	return &c
}

func (c *chance) of(n int) int {
	*c = *c*1664525 + 1013904223
	return int(*c>>8) % n
}

// thing is an object as plain bytes; a place without any is a hole.
type thing struct {
	kind  uint8
	links int
	size  int
	data  [15]string
}

// things are those of one line.
type things map[int]thing

// twins are plain trees that no one else has.
func twins(of map[int]things) map[int]things {
	to := map[int]things{}
	for id, l := range of {
		to[id] = maps.Clone(l)
	}
	return to
}

// house is a pool, and what should be in it by plain trees: now, and if power failed.
type house struct {
	t      *testing.T
	what   string
	c      *chance
	p      api.Pool
	now    map[int]things
	lasts  map[int]things
	passes map[int]string // of each key
	open   map[int]bool   // whether it is loaded
	sealed map[string]api.Ptr
	seen   map[string]int
}

func newHouse(t *testing.T, seed int, seen map[string]int) *house {
	h := &house{t: t, what: fmt.Sprint("seed ", seed), c: chances(seed), now: map[int]things{}, lasts: map[int]things{}, passes: map[int]string{}, open: map[int]bool{}, sealed: map[string]api.Ptr{}, seen: seen}
	p, e := mount.Format(seed % 2)
	h.goOn("Format", p, e)
	return h
}

func (h *house) error(what string, told ...any) {
	h.t.Helper()
	h.t.Errorf("%s: %s: %s", h.what, what, fmt.Sprint(told...))
}

// goOn goes on with what was answered, which no call may refuse here.
func (h *house) goOn(what string, p api.Pool, e api.Errno) {
	h.t.Helper()
	if e != api.OK {
		h.t.Fatalf("%s: %s: %d", h.what, what, e)
	}
	if e := txg.Check(p); e != api.OK {
		h.t.Fatalf("%s: %s: what is answered may not be", h.what, what)
	}
	h.p = p
	h.seen[what]++
}

// last is what lasts now, because of a sync.
func (h *house) last() { h.lasts = twins(h.now) }

func (h *house) create() {
	n := len(h.passes)
	text := fmt.Sprint(h.what, " ", n)
	p, id, e := data.Create(h.p, text, key(n))
	if len(h.p.Lines) == 16 || n == 8 {
		if e != api.ErrFull {
			h.error("a key too many", e)
		}
		h.seen["full"]++
		return
	}
	if id != h.p.NextId {
		h.error("another Id", id)
	}
	h.goOn("Create", p, e)
	h.passes[n], h.open[n], h.now[id] = text, true, things{}
	h.last()
}

// line makes a snapshot of a dataset, or a clone of a snapshot, as chapters 21 and 22 have it.
func (h *house) line() {
	if len(h.p.Lines) > 4 || len(h.p.Lines) == 0 {
		return
	}
	if len(h.p.Changes) > 0 {
		h.sync()
	}
	p := slowTwin(h.p)
	id, of := p.NextId, &p.Lines[h.c.of(len(p.Lines))]
	l := api.Line{Id: id, Kind: isHead, Owner: id, Prev: of.Id, Txg: p.Gen, Guid: p.NextGuid, Key: of.Key, Root: of.Root}
	h.now[id] = maps.Clone(h.now[of.Id])
	if of.Kind == isHead {
		l.Kind, l.Owner, l.Prev, l.Dead = isSnap, of.Id, of.Prev, of.Dead
		of.Prev, of.Txg, of.Dead = id, p.Gen, nil
	}
	p.Lines = append(p.Lines, l)
	p.NextId++
	p.NextGuid += 2
	p, e := txg.Sync(p)
	h.goOn(fmt.Sprint("a line of kind ", l.Kind), p, e)
	h.last()
}

// some tells a line by lot.
func (h *house) some() (l api.Line, there bool) {
	if len(h.p.Lines) == 0 {
		return l, false
	}
	return h.p.Lines[h.c.of(len(h.p.Lines))], true
}

// refused tells whether a change is refused, for what the line is; then nothing is changed.
func (h *house) refused(l api.Line, e api.Errno) bool {
	want := api.OK
	switch {
	case l.Kind == isSnap:
		want = api.ErrFrozen
	case !h.open[l.Key]:
		want = api.ErrKey
	}
	if want != api.OK && e != want {
		h.error("a change", e, "; want ", want)
	}
	return want != api.OK
}

func (h *house) edit(l api.Line, obj int) {
	index, b := []int{0, 1, 7, 13, 14}[h.c.of(5)], text(h.c.of(256))[:h.c.of(257)]
	if h.c.of(4) == 0 {
		b = nil
	}
	p, e := data.Edit(h.p, l.Id, obj, index, b)
	if h.refused(l, e) {
		return
	}
	o := h.now[l.Id][obj]
	if o.kind == 0 {
		if e != api.ErrNone {
			h.error("no object", e)
		}
		return
	}
	if c := changeOf(h.p, l.Id, obj, index); c != nil && c.Laid != none {
		h.seen["given up"]++
	}
	h.goOn("Edit", p, e)
	o.data[index] = string(append(b, make([]byte, 256-len(b))...))
	h.now[l.Id][obj] = o
}

func (h *house) set(l api.Line, obj int) {
	kind, links, size := uint8(1+h.c.of(7)), h.c.of(256), h.c.of(3841)
	if h.c.of(3) == 0 {
		kind, links, size = 0, 0, 0
	}
	p, e := data.Set(h.p, l.Id, obj, kind, links, size)
	if h.refused(l, e) {
		return
	}
	o := h.now[l.Id][obj]
	if kind == 0 && slices.ContainsFunc(h.p.Changes, func(c api.Change) bool { return c.Set == l.Id && c.Obj == obj && c.Laid != none }) {
		h.seen["given up with an object"]++
	}
	if kind > 0 {
		h.goOn("Set", p, e)
		o.kind, o.links, o.size = kind, links, size
		h.now[l.Id][obj] = o
		return
	}
	if o.kind == 0 {
		if e != api.ErrNone {
			h.error("no object to be taken away", e)
		}
		return
	}
	h.goOn("Set 0", p, e)
	delete(h.now[l.Id], obj)
}

// turnKey loads a key, or unloads it.
func (h *house) turnKey(l api.Line) {
	if !h.open[l.Key] {
		for n, text := range h.passes {
			if _, e := data.Load(h.p, l.Id, text); n != l.Key && e != api.ErrPass {
				h.error("another one's passphrase", e)
			}
		}
		p, e := data.Load(h.p, l.Id, h.passes[l.Key])
		h.goOn("Load", p, e)
		h.open[l.Key] = true
		return
	}
	p, e := data.Unload(h.p, l.Id)
	h.goOn("Unload", p, e)
	h.open[l.Key] = false
	h.last()
}

func (h *house) sync() {
	p, e := txg.Sync(h.p)
	h.goOn("Sync", p, e)
	h.last()
}

func (h *house) commit(l api.Line) {
	p, e := log.Commit(h.p, l.Id)
	if l.Kind == isSnap || e == api.ErrLog {
		h.seen[fmt.Sprint("commit ", int(e))]++
		return
	}
	h.goOn("Commit", p, e)
	h.lasts[l.Id] = maps.Clone(h.now[l.Id])
}

// crash lets power fail: no key is loaded any more, and all is as it lasted.
func (h *house) crash() {
	h.seen[fmt.Sprint("crash, logged ", min(1, h.p.Logged))]++
	keep := make([]bool, len(h.p.Store.Disk.Waits))
	for i := range keep {
		keep[i] = h.c.of(2) > 0
	}
	p, e := mount.Crash(h.p, keep)
	h.goOn("Crash", p, e)
	h.now, h.open = twins(h.lasts), map[int]bool{}
	h.last()
}

// look asks for all that is read of one object of a line.
func (h *house) look(l api.Line, obj int) {
	o := h.now[l.Id][obj]
	kind, links, size, e := data.Get(h.p, l.Id, obj)
	want := api.OK
	if o.kind == 0 {
		want = api.ErrNone
	}
	if kind != o.kind || links != o.links || size != o.size || e != want {
		h.error(fmt.Sprint("Get(", l.Id, ", ", obj, ")"), kind, links, size, e)
	}
	if !h.open[l.Key] {
		want = api.ErrKey
	}
	for index, text := range o.data {
		if text == "" {
			text = string(noughts())
		}
		if want != api.OK {
			text = ""
		}
		if b, e := data.Read(h.p, l.Id, obj, index); e != want || string(b) != text {
			h.error(fmt.Sprint("Read(", l.Id, ", ", obj, ", ", index, ")"), e, "; want ", want)
		}
	}
}

// lookAll asks for all, and whose each block is.
func (h *house) lookAll() {
	for _, l := range h.p.Lines {
		for obj := range 16 {
			h.look(l, obj)
		}
	}
	if len(h.p.Lines) != len(h.now) {
		h.error("lines", len(h.p.Lines), "; want ", len(h.now))
	}
	h.owners()
}

// owners asks that what somebody has is used, what nobody has is not; and that no number has two blocks.
func (h *house) owners() {
	has := map[int]bool{}
	note := func(l api.Line, p api.Ptr) {
		has[p.At] = true
		if p.Iv == 0 {
			return
		}
		name := fmt.Sprint(l.Key, " ", p.Iv)
		if was, there := h.sealed[name]; there && was != p {
			h.error("two blocks by one number", was, " and ", p)
		}
		h.sealed[name] = p
	}
	for _, l := range h.p.Lines {
		below, e := set.Walk(h.p.Store, l.Root, 0)
		if e != api.OK {
			h.error("what is below a root", e)
		}
		for _, p := range append(below, l.Dead...) {
			note(l, p)
		}
		for _, c := range h.p.Changes {
			if c.Set == l.Id && c.Laid != none {
				if has[c.Laid.At] {
					h.error("another one's block is laid", c)
				}
				note(l, c.Laid)
			}
		}
	}
	for _, at := range h.p.Meta {
		has[at] = true
	}
	for at := firstBlock; at < 256; at++ {
		if mark := h.p.Store.Space[at]; (mark == used) != has[at] {
			h.error("block ", at, " is ", mark, "; somebody has it: ", has[at])
		}
	}
}

func (h *house) step() {
	l, there := h.some()
	if !there {
		h.create()
		return
	}
	obj := []int{0, 3, 15}[h.c.of(3)]
	if !h.open[l.Key] && h.c.of(2) > 0 {
		h.turnKey(l)
	}
	switch n := h.c.of(80); {
	case n < 1:
		h.create()
	case n < 3:
		h.line()
	case n < 5:
		h.turnKey(l)
	case n < 7:
		h.sync()
	case n < 9:
		h.crash()
	case n < 17:
		h.edit(l, obj)
		h.commit(l)
		for range 4 {
			h.edit(l, obj)
		}
	case n < 33:
		h.set(l, obj)
	default:
		h.edit(l, obj)
	}
	h.look(l, obj)
}

// Runs by lot beside plain trees of bytes: datasets, their keys, snapshots, clones, objects that are made, changed, taken away and made again, syncs, commits and crashes. W1 and W3, as far as P20.7 speaks of them.
func TestP207ByLot(t *testing.T) {
	seen := map[string]int{}
	for seed := range 24 {
		h := newHouse(t, seed, seen)
		for n := range 240 {
			h.step()
			if n%12 == 11 {
				h.lookAll()
			}
		}
	}
	for what, least := range map[string]int{
		"Create": 40, "a line of kind 1": 15, "a line of kind 2": 15, "Edit": 400, "Set": 150, "Set 0": 50, "given up": 40, "given up with an object": 3,
		"Load": 100, "Unload": 100, "Sync": 100, "Commit": 100, "Crash": 50, "crash, logged 1": 10,
	} {
		if seen[what] < least {
			t.Errorf("%s: %d times; want %d", what, seen[what], least)
		}
	}
}

// All places of one object, each edited: it is read, noughts behind it, and nothing else is another thing; of whichever line.
func TestP207Places(t *testing.T) {
	p := loaded(busy(t), 0, 2, 5, 6)
	told := func(p api.Pool) map[[3]int]string {
		all := map[[3]int]string{}
		for _, id := range lineIds() {
			for obj := range 16 {
				for index := range 15 {
					if b, e := data.Read(p, id, obj, index); e == api.OK {
						all[[3]int{id, obj, index}] = string(b)
					}
				}
			}
		}
		return all
	}
	was := told(p)
	for at := range was {
		if at[0] == snap {
			continue
		}
		b := text(at[1]*15 + at[2])[:1+(at[1]*15+at[2])%256]
		q, e := data.Edit(p, at[0], at[1], at[2], b)
		if e != api.OK {
			t.Fatal(at, e)
		}
		want := maps.Clone(was)
		want[at] = string(slices.Concat(b, make([]byte, 256-len(b))))
		if !maps.Equal(told(q), want) {
			t.Errorf("%v: other texts", at)
		}
		if at[2] == 0 && !maps.Equal(told(loaded(synced(t, q), 0, 2, 5, 6)), want) {
			t.Errorf("%v: other texts behind a sync", at)
		}
	}
}

// A key that is unloaded and loaded, a sync, and both, change nothing of what is read; between nothing is.
func TestP207Keys(t *testing.T) {
	p := busy(t)
	for id, n := range map[int]int{one: 2, snap: 2, copied: 2, other: 5} {
		for i, p := range []api.Pool{p, synced(t, p), synced(t, synced(t, p))} {
			q := wantUnload(t, "busy", p, id, api.OK)
			for _, l := range q.Lines {
				for obj := range 16 {
					for index := range 15 {
						if b, e := data.Read(q, l.Id, obj, index); l.Key == n && (e != api.ErrKey || len(b) > 0) {
							t.Errorf("without its key: Read(%d, %d, %d): %d", l.Id, obj, index, e)
						}
					}
				}
			}
			q = wantLoad(t, "busy", q, id, pass(n), api.OK)
			wantStanding(t, fmt.Sprint("syncs: ", i, ", unloaded by ", id), q, []int{one, snap, copied, other, bare})
			wantStanding(t, fmt.Sprint("syncs: ", i+1, ", unloaded by ", id), synced(t, q), []int{one, snap, copied, other, bare})
		}
	}
}
