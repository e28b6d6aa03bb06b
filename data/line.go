package data

import (
	"bytes"
	"cmp"
	"slices"

	"charterhouse/api"
	"charterhouse/set"
	"charterhouse/store"
	"charterhouse/txg"
)

// line is a line, with the pool that it is of.
type line struct {
	api.Line
	p api.Pool
}

// lineOf tells a line of p, if p may be.
func lineOf(p api.Pool, id int) (line, api.Errno) {
	if e := txg.Check(p); e != api.OK {
		return line{}, e
	}
	i := slices.IndexFunc(p.Lines, func(l api.Line) bool { return l.Id == id })
	if i < 0 {
		return line{}, api.ErrNone
	}
	return line{p.Lines[i], p}, api.OK
}

func (l line) isLoaded() bool {
	return len(l.p.Loaded[l.Key]) > 0
}

// change tells the change of a place, or of a head.
func (l line) change(obj, index int) (c api.Change, there bool) {
	i, there := placeOf(l.p.Changes, api.Change{Set: l.Id, Obj: obj, Index: index})
	if !there {
		return api.Change{}, false
	}
	return l.p.Changes[i], true
}

// head tells an object's head, as it is.
func (l line) head(obj int) (kind uint8, links, size int, e api.Errno) {
	c, there := l.change(obj, api.Head)
	if !there {
		o, e := set.Object(l.p.Store, l.Root, obj)
		return o.Kind, o.Links, o.Size, e
	}
	if c.Kind == 0 {
		return 0, 0, 0, api.ErrNone
	}
	return c.Kind, c.Links, c.Size, api.OK
}

// rooted tells the pointers to the data that an object of the Root has; where there is none it has holes.
func (l line) rooted(obj int) ([]api.Ptr, api.Errno) {
	o, e := set.Object(l.p.Store, l.Root, obj)
	if e == api.ErrNone {
		return make([]api.Ptr, api.Data), api.OK
	}
	return o.Data, e
}

// read tells what stands at a place. Only what has to be is asked: where there is a change the Root may be what it likes.
func (l line) read(obj, index int) ([]byte, api.Errno) {
	c, there := l.change(obj, index)
	if !there {
		data, e := l.rooted(obj)
		if e != api.OK {
			return nil, e
		}
		return l.open(data[index])
	}
	if len(c.Data) > 0 {
		return bytes.Clone(c.Data), api.OK
	}
	return l.open(c.Laid)
}

// open tells what stands at p; noughts, if it is none.
func (l line) open(p api.Ptr) ([]byte, api.Errno) {
	if p == (api.Ptr{}) {
		return make([]byte, api.Size), api.OK
	}
	return store.Open(l.p.Store, p, l.p.Loaded[l.Key])
}

// emptied tells a hole for each place of an object at which there is a change, or data: none of that is to be there again, when the object is made again.
func (l line) emptied(obj int) (holes []api.Change, e api.Errno) {
	if _, _, _, e = l.head(obj); e != api.OK {
		return nil, e
	}
	data, e := l.rooted(obj)
	if e != api.OK {
		return nil, e
	}
	for index, p := range data {
		if _, there := l.change(obj, index); there || p != (api.Ptr{}) {
			holes = append(holes, api.Change{Set: l.Id, Obj: obj, Index: index})
		}
	}
	return holes, api.OK
}

// changed tells p with the changes of a dataset that wanted tells. However it is left, they are put just if nothing was refused.
func changed(p api.Pool, id int, wanted func(l line) ([]api.Change, api.Errno)) (out api.Pool, e api.Errno) {
	var changes []api.Change
	defer func() {
		if e == api.OK {
			out, e = put(p, changes)
		}
	}()
	l, e := lineOf(p, id)
	if e != api.OK {
		return
	}
	if l.Kind == api.IsSnap {
		e = api.ErrFrozen
		return
	}
	changes, e = wanted(l)
	return
}

// put tells p with each of changes in its place. Where one was laid already that goes, its block is given up.
func put(p api.Pool, changes []api.Change) (api.Pool, api.Errno) {
	p = txg.Twin(p)
	for _, c := range changes {
		i, there := placeOf(p.Changes, c)
		if !there {
			p.Changes = slices.Insert(p.Changes, i, c)
			continue
		}
		if was := p.Changes[i].Laid; was != (api.Ptr{}) {
			s, e := store.Give(p.Store, was)
			if e != api.OK {
				return api.Pool{}, e
			}
			p.Store = s
		}
		p.Changes[i] = c
	}
	return p, api.OK
}

// placeOf tells where c stands among changes, or is to stand, and whether there is one: they rise.
func placeOf(changes []api.Change, c api.Change) (i int, there bool) {
	return slices.BinarySearchFunc(changes, c, func(a, b api.Change) int {
		return cmp.Or(cmp.Compare(a.Set, b.Set), cmp.Compare(a.Obj, b.Obj), cmp.Compare(a.Index, b.Index))
	})
}
