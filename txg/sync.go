package txg

import (
	"slices"

	"charterhouse/api"
	"charterhouse/dead"
	"charterhouse/dev"
	"charterhouse/label"
	"charterhouse/obj"
	"charterhouse/ptr"
	"charterhouse/set"
	"charterhouse/space"
	"charterhouse/store"
)

// work is a pool on its way, in memory of its own. It goes from step to step; behind the first one that is refused, none changes anything any more.
type work struct {
	api.Pool
	birth  uint32      // of what is laid
	halves [2]api.Disk // the disk ahead of each flush
	e      api.Errno   // the first error
}

// synced tells p behind all steps of a sync.
func synced(p api.Pool) *work {
	if e := wrongToSync(p); e != api.OK {
		return &work{e: e}
	}
	w := &work{Pool: Twin(p), birth: p.Gen + 1}
	w.changeLines()
	w.giveMeta()
	w.layMeta()
	w.flush(0)
	w.putLabel()
	w.flush(1)
	w.settle()
	return w
}

func wrongToSync(p api.Pool) api.Errno {
	switch {
	case !mayBe(p):
		return api.ErrBad
	case p.Gen == api.MaxTxg:
		return api.ErrFull
	}
	return api.OK
}

// refuse tells whether a step is refused, and keeps the first error.
func (w *work) refuse(e api.Errno) bool {
	if w.e == api.OK {
		w.e = e
	}
	return w.e != api.OK
}

// goOn goes on with what a call of store tells, unless that is refused.
func (w *work) goOn(s api.Store, e api.Errno) {
	if !w.refuse(e) {
		w.Store = s
	}
}

// lay lays a block, unless what was to make it was refused.
func (w *work) lay(block []byte, made api.Errno) (p api.Ptr) {
	if w.refuse(made) {
		return
	}
	s, p, e := store.Lay(w.Store, w.birth, block)
	w.goOn(s, e)
	return p
}

// cut parts a list behind those that are the first ones of their kind. They have no spare room: who appends to them must not reach the others.
func cut(l []api.Change, is func(c api.Change) bool) (first, rest []api.Change) {
	n := 0
	for n < len(l) && is(l[n]) {
		n++
	}
	return l[:n:n], l[n:]
}

// changeLines goes through the lines and the changes side by side: both rise.
func (w *work) changeLines() {
	rest := w.Changes
	for i := range w.Lines {
		line := &w.Lines[i]
		var own []api.Change
		own, rest = cut(rest, func(c api.Change) bool { return c.Set == line.Id })
		if len(own) > 0 {
			w.changeLine(line, own)
		}
	}
}

func (w *work) changeLine(line *api.Line, changes []api.Change) {
	l := w.ptrsOf(line.Root)
	for len(changes) > 0 && w.e == api.OK {
		n := changes[0].Obj
		var own []api.Change
		own, changes = cut(changes, func(c api.Change) bool { return c.Obj == n })
		l[n] = w.changeObject(line, n, l[n], own)
	}
	w.giveUp(line, line.Root)
	line.Root = api.Ptr{}
	if slices.ContainsFunc(l, isThere) {
		line.Root = w.lay(ptr.Row(l))
	}
}

// ptrsOf has pointers only where none was refused.
func (w *work) ptrsOf(root api.Ptr) []api.Ptr {
	if w.e != api.OK {
		return nil
	}
	l, e := set.Ptrs(w.Store, root)
	w.refuse(e)
	return l
}

// changeObject tells where an object stands that stood at was: none, if there is none any more.
func (w *work) changeObject(line *api.Line, n int, was api.Ptr, changes []api.Change) api.Ptr {
	o := w.objectOf(line.Root, n)
	for _, c := range changes {
		if c.Index == api.Head {
			o.Kind, o.Links, o.Size = c.Kind, c.Links, c.Size
			continue
		}
		w.giveUp(line, o.Data[c.Index])
		o.Data[c.Index] = w.placed(line.Key, c)
	}
	w.giveUp(line, was)
	if o.Kind == 0 {
		for _, p := range o.Data {
			w.giveUp(line, p)
		}
		return api.Ptr{}
	}
	return w.lay(obj.Write(o))
}

// objectOf tells one of holes where there is no object, also beside an error: its places are looked at still.
func (w *work) objectOf(root api.Ptr, n int) api.Object {
	o, e := set.Object(w.Store, root, n)
	if e == api.OK {
		return o
	}
	if e != api.ErrNone {
		w.refuse(e)
	}
	return api.Object{Data: make([]api.Ptr, api.Data)}
}

// placed tells the pointer to what a change has. Data that was laid ahead is not sealed once more, and needs no key.
func (w *work) placed(key int, c api.Change) (p api.Ptr) {
	if w.e != api.OK || isThere(c.Laid) || len(c.Data) == 0 {
		return c.Laid
	}
	if len(w.Loaded[key]) == 0 {
		w.refuse(api.ErrKey)
		return
	}
	s, p, e := store.Seal(w.Store, w.birth, w.Loaded[key], c.Data)
	w.goOn(s, e)
	return p
}

// giveUp gives up a pointer of a line: what the line's Prev has, too, is kept for that.
func (w *work) giveUp(line *api.Line, p api.Ptr) {
	if w.e != api.OK || !isThere(p) {
		return
	}
	// Both are asked of either kind: what is free is nobody's, and what is in Dead is not the line's any more.
	if w.Store.Space[p.At] != api.Used || slices.ContainsFunc(line.Dead, func(gone api.Ptr) bool { return gone.At == p.At }) {
		w.refuse(api.ErrBad)
		return
	}
	prev, _ := lineOf(w.Lines, line.Prev)
	if p.Birth > prev.Txg {
		w.goOn(store.Give(w.Store, p))
		return
	}
	l, e := dead.Add(line.Dead, p)
	w.refuse(e)
	line.Dead = l
}

// giveMeta gives up what the last sync laid for the pool itself.
func (w *work) giveMeta() {
	for _, at := range w.Meta {
		if w.e != api.OK {
			return
		}
		table, e := space.Give(w.Store.Space, at)
		w.refuse(e)
		w.Store.Space = table
	}
	w.Meta = nil
}

// layMeta lays all that tells what the pool has, and ends with the root.
func (w *work) layMeta() {
	all := make([]laidLine, len(w.Lines))
	for i, line := range w.Lines {
		all[i] = laidLine{Line: line, dead: w.layDead(line.Dead)}
	}
	t := trunk{nextId: w.NextId, nextGuid: w.NextGuid, many: len(all)}
	for part := range slices.Chunk(all, inBlock) {
		t.lines = append(t.lines, w.layOwn(linesBlock(part)))
	}
	if len(all) == 0 {
		t.lines = append(t.lines, w.layOwn(linesBlock(nil)))
	}
	t.keys = w.layOwn(keysBlock(w.Keys))
	w.Root = w.layOwn(t.block())
}

// layOwn puts a block among the pool's own ones. They rise by themselves: each takes the lowest free block, and none becomes free within a sync.
func (w *work) layOwn(block []byte) api.Ptr {
	p := w.lay(block, api.OK)
	w.Meta = append(w.Meta, p.At)
	return p
}

func (w *work) layDead(l []api.Ptr) (p api.Ptr) {
	if w.e != api.OK {
		return
	}
	s, p, own, e := dead.Lay(w.Store, w.birth, l)
	w.goOn(s, e)
	w.Meta = append(w.Meta, own...)
	return p
}

func (w *work) flush(n int) {
	if w.e != api.OK {
		return
	}
	w.halves[n] = w.Store.Disk
	w.write(dev.Flush(w.Store.Disk))
}

func (w *work) putLabel() {
	if w.e == api.OK {
		w.write(label.Put(w.Store.Disk, api.Label{Gen: w.birth, Epoch: w.Store.Epoch, Root: w.Root}))
	}
}

// write goes on with what a call tells of the disk, unless that is refused.
func (w *work) write(d api.Disk, e api.Errno) {
	if !w.refuse(e) {
		w.Store.Disk = d
	}
}

func (w *work) settle() {
	if w.e != api.OK {
		return
	}
	table, e := space.Settle(w.Store.Space)
	w.refuse(e)
	w.Store.Space = table
	w.Gen, w.Changes, w.Logged = w.birth, nil, 0
}
