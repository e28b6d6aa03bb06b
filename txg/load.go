package txg

import (
	"slices"

	"charterhouse/api"
	"charterhouse/dead"
	"charterhouse/dev"
	"charterhouse/ptr"
	"charterhouse/set"
	"charterhouse/space"
	"charterhouse/store"
)

// loaded tells the pool of l, read back step by step.
func loaded(d api.Disk, l api.Label) *work {
	if dev.Check(d) != api.OK || !mayLabel(l) {
		return &work{e: api.ErrBad}
	}
	// What is read is asked for no marks: till all is known that is used, none of the table tells anything.
	s := api.Store{Disk: dev.Twin(d), Space: space.New(), Epoch: l.Epoch}
	w := &work{Pool: api.Pool{Store: s, Gen: l.Gen, Root: l.Root, Loaded: make([][]byte, api.Keys)}}
	all := w.readMeta()
	for _, x := range all {
		w.readLine(x)
	}
	if w.e == api.OK {
		slices.Sort(w.Meta)
		w.refuse(Check(w.Pool))
	}
	return w
}

func mayLabel(l api.Label) bool {
	return l.Gen >= 1 && l.Gen <= api.MaxTxg && l.Epoch >= 1 && l.Epoch <= api.MaxEpoch && isThere(l.Root) && ptr.Check(l.Root) == api.OK
}

// readMeta reads what a sync laid for the pool itself, but the dead lists, and tells the lines, without these.
func (w *work) readMeta() []laidLine {
	root := w.look(w.Root)
	if w.e != api.OK {
		return nil
	}
	t, e := trunkOf(root)
	if w.refuse(e) {
		return nil
	}
	w.NextId, w.NextGuid = t.nextId, t.nextGuid
	// All of these are looked at ahead of what they tell: a sum that is another one comes first.
	blocks := make([][]byte, len(t.lines))
	for i, p := range t.lines {
		blocks[i] = w.look(p)
	}
	keys := w.look(t.keys)
	if w.e != api.OK {
		return nil
	}
	var all []laidLine
	for i, block := range blocks {
		l, e := linesOf(block, min(inBlock, t.many-i*inBlock))
		w.refuse(e)
		all = append(all, l...)
	}
	w.Keys, e = keysOf(keys)
	if w.refuse(e) {
		return nil
	}
	return all
}

// look tells one of the pool's own blocks as it stands.
func (w *work) look(p api.Ptr) []byte {
	if w.e != api.OK {
		return nil
	}
	block, e := store.Look(w.Store, p)
	w.refuse(e)
	w.own(p.At)
	return block
}

// readLine reads what is below a line.
func (w *work) readLine(x laidLine) {
	if w.e != api.OK {
		return
	}
	gone, own, e := dead.Load(w.Store, x.dead)
	if w.refuse(e) {
		return
	}
	below, e := set.Walk(w.Store, x.Root, 0)
	if w.refuse(e) {
		return
	}
	w.own(own...)
	for _, p := range slices.Concat(gone, below) {
		w.Store.Space[p.At] = api.Used
	}
	x.Dead = gone
	w.Lines = append(w.Lines, x.Line)
}

// own puts blocks among the pool's own ones. One that is there twice stays so: then the pool may not be.
func (w *work) own(blocks ...int) {
	for _, at := range blocks {
		w.Store.Space[at] = api.Used
	}
	w.Meta = append(w.Meta, blocks...)
}
