package mount_test

import (
	"maps"
	"slices"
	"testing"

	"charterhouse/api"
	"charterhouse/log"
	"charterhouse/mount"
	"charterhouse/set"
	"charterhouse/store"
	"charterhouse/txg"
)

// text is a block of bytes, another one for each n up to 255.
func text(n int) []byte {
	b := make([]byte, 256)
	for i := range b {
		b[i] = byte(i*37 + n*11)
	}
	return b
}

// key is one that is loaded, wrapped one of Keys: each n up to 255 has its own.
func key(n int) []byte     { return text(n)[100:116:116] }
func wrapped(n int) []byte { return text(n)[50:74:74] }

// put is a change of a place by data, hole one to a hole, heading one of an object's head.
func put(set, obj, index, n int) api.Change {
	return api.Change{Set: set, Obj: obj, Index: index, Data: text(n)}
}

func hole(set, obj, index int) api.Change {
	return api.Change{Set: set, Obj: obj, Index: index}
}

func heading(set, obj, kind int) api.Change {
	return api.Change{Set: set, Obj: obj, Index: head, Kind: uint8(kind), Links: kind * 9, Size: kind * 500}
}

// puts are so many changes of one object.
func puts(set, obj, many int) (l []api.Change) {
	for i := range many {
		l = append(l, put(set, obj, i, obj*16+i))
	}
	return append(l, heading(set, obj, 1))
}

// with is p with these changes, and all its keys loaded.
func with(p api.Pool, changes ...api.Change) api.Pool {
	p = slowTwin(p)
	p.Changes = changes
	for i, k := range p.Keys {
		if len(k) > 0 {
			p.Loaded[i] = key(i)
		}
	}
	return p
}

// on is p on another disk.
func on(p api.Pool, d api.Disk) api.Pool {
	p.Store.Disk = d
	return p
}

func formatted(t *testing.T, side int) api.Pool {
	t.Helper()
	p, e := mount.Format(side)
	if e != api.OK {
		t.Fatalf("Format(%d): %d", side, e)
	}
	return p
}

func synced(t *testing.T, p api.Pool) api.Pool {
	t.Helper()
	p, e := txg.Sync(p)
	if e != api.OK {
		t.Fatalf("Sync: %d", e)
	}
	return p
}

func committed(t *testing.T, p api.Pool, set int) api.Pool {
	t.Helper()
	p, e := log.Commit(p, set)
	if e != api.OK {
		t.Fatalf("Commit: %d", e)
	}
	return p
}

// base is a pool of four syncs, with dataset 1, its snapshot 2, that one's clone 3, and dataset 4, which has a key of its own. Both 1 and 3 gave up something of 2.
func base(t *testing.T, side int) api.Pool {
	t.Helper()
	p := formatted(t, side)
	for _, k := range []int{2, 5} {
		p.Keys[k] = wrapped(k)
	}
	p.Lines = []api.Line{{Id: 1, Kind: isHead, Owner: 1, Txg: 1, Guid: uint32(1 + side), Key: 2}, {Id: 4, Kind: isHead, Owner: 4, Txg: 1, Guid: uint32(7 + side), Key: 5}}
	p.NextId, p.NextGuid = 5, uint32(9+side)
	p = synced(t, with(p, put(1, 0, 0, 1), put(1, 0, 3, 2), heading(1, 0, 1), put(1, 7, 14, 3), heading(1, 7, 2), put(4, 3, 0, 4), heading(4, 3, 7)))
	one := p.Lines[0]
	two, three := one, one
	two.Id, two.Kind, two.Txg, two.Guid = 2, isSnap, p.Gen, uint32(3+side)
	one.Prev, one.Txg = 2, p.Gen
	three.Id, three.Owner, three.Prev, three.Txg, three.Guid = 3, 3, 2, p.Gen, uint32(5+side)
	p.Lines = []api.Line{one, two, three, p.Lines[1]}
	p = synced(t, with(p))
	return synced(t, with(p, put(1, 0, 0, 5), hole(1, 7, 14), put(3, 0, 1, 6), hole(3, 0, 3)))
}

// kept is q, in which all blocks are used that p had, whether somebody has them or not: so what is laid there stays for good.
func kept(q, p api.Pool) api.Pool {
	for at, mark := range p.Store.Space {
		if mark != unused {
			q.Store.Space[at] = used
		}
	}
	return q
}

// four is a disk with labels of Gens 5 to 8, all of whose pools are there, and what they have. Of the Gen logged there is a log, too.
func four(t *testing.T, logged uint32) (d api.Disk, has map[uint32]map[int]things) {
	t.Helper()
	p, has := base(t, 0), map[uint32]map[int]things{}
	for n := range 4 {
		was := p
		p = kept(synced(t, with(p, put(1, 0, 0, 100+n), put(4, 3, n, 110+n))), was)
		if p.Gen == logged {
			p = committed(t, with(p, put(1, 0, 5, 200), put(1, 7, 9, 201), heading(1, 8, 3)), 1)
		}
		has[p.Gen] = contents(t, p)
	}
	return p.Store.Disk, has
}

// thing is an object as plain bytes; a place without any is a hole.
type thing struct {
	kind  uint8
	links int
	size  int
	data  [15]string
}

// things are those of one line.
type things map[int]thing

func sameThings(a, b map[int]things) bool {
	return maps.EqualFunc(a, b, func(a, b things) bool { return maps.Equal(a, b) })
}

// twins are plain trees that no one else has.
func twins(of map[int]things) map[int]things {
	to := map[int]things{}
	for id, l := range of {
		to[id] = maps.Clone(l)
	}
	return to
}

// openAt tells what stands at a pointer as key sealed it.
func openAt(t *testing.T, s api.Store, p api.Ptr, key []byte) string {
	t.Helper()
	if p == none {
		return ""
	}
	b, e := store.Open(s, p, key)
	if e != api.OK {
		t.Errorf("%v is not opened: %d", p, e)
	}
	return string(b)
}

// contents tells what a pool has by plain trees, its changes included.
func contents(t *testing.T, p api.Pool) map[int]things {
	t.Helper()
	all := map[int]things{}
	for _, l := range p.Lines {
		all[l.Id] = things{}
		for n := range 16 {
			var one thing
			o, e := set.Object(p.Store, l.Root, n)
			if e != api.OK && e != api.ErrNone {
				t.Errorf("line %d, object %d: %d", l.Id, n, e)
			}
			one.kind, one.links, one.size = o.Kind, o.Links, o.Size
			for i, at := range o.Data {
				one.data[i] = openAt(t, p.Store, at, key(l.Key))
			}
			for _, c := range p.Changes {
				switch {
				case c.Set != l.Id || c.Obj != n:
				case c.Index == head:
					one.kind, one.links, one.size = c.Kind, c.Links, c.Size
				case len(c.Data) > 0:
					one.data[c.Index] = string(c.Data)
				default:
					one.data[c.Index] = openAt(t, p.Store, c.Laid, key(l.Key))
				}
			}
			if one.kind > 0 {
				all[l.Id][n] = one
			}
		}
	}
	return all
}

// wantOpened asks for all that holds of a pool that was opened.
func wantOpened(t *testing.T, what string, p api.Pool) {
	t.Helper()
	if e := txg.Check(p); e != api.OK {
		t.Errorf("%s: what is opened may not be", what)
	}
	for i, k := range p.Loaded {
		if len(k) > 0 {
			t.Errorf("%s: key %d is loaded", what, i)
		}
	}
	if len(p.Store.Disk.Waits)+len(p.Changes)+p.Logged+int(p.Store.Count) != 0 {
		t.Errorf("%s: %d writes wait, %d changes, %d logged, %d numbers", what, len(p.Store.Disk.Waits), len(p.Changes), p.Logged, p.Store.Count)
	}
	if all := plainLabels(p.Store.Disk); !slices.Contains(all, api.Label{Gen: p.Gen, Epoch: p.Store.Epoch, Root: p.Root}) {
		t.Errorf("%s: other labels: %v", what, all)
	}
}

// wantOpen asks that a disk is opened as the plain reading has it, and for the error by hand; it tells the pool.
func wantOpen(t *testing.T, what string, d api.Disk, want api.Errno) api.Pool {
	t.Helper()
	q, e := plainOpen(d)
	got, told := mount.Open(d)
	if told != want || e != want {
		t.Errorf("%s: Open: %d; by the plain reading %d; want %d", what, told, e, want)
	}
	if d := differ(got, q); d != "" {
		t.Errorf("%s: Open: %s", what, d)
	}
	if told == api.OK {
		wantOpened(t, what, got)
	}
	return got
}

// wantCrash asks the same of a pool's crash, of marks for all that waits.
func wantCrash(t *testing.T, what string, p api.Pool, keep []bool, want api.Errno) api.Pool {
	t.Helper()
	if e := txg.Check(p); e != api.OK {
		t.Fatalf("%s: the pool may not be", what)
	}
	q, e := plainOpen(left(p.Store.Disk, keep))
	got, told := mount.Crash(p, keep)
	if told != want || e != want {
		t.Errorf("%s: Crash: %d; by the plain reading %d; want %d", what, told, e, want)
	}
	if d := differ(got, q); d != "" {
		t.Errorf("%s: Crash: %s", what, d)
	}
	if told == api.OK {
		wantOpened(t, what, got)
	}
	return got
}
