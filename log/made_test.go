package log_test

import (
	"fmt"
	"slices"
	"testing"

	"charterhouse/api"
	"charterhouse/log"
	"charterhouse/txg"
)

// text is a block of bytes, another one for each n up to 255.
func text(n int) []byte {
	b := make([]byte, 256)
	for i := range b {
		b[i] = byte(i*37 + n*11)
	}
	return b
}

// key is one that is loaded, wrapped one of Keys: each n up to 255 has its own.
func key(n int) []byte     { return text(n)[100:116:116] }
func wrapped(n int) []byte { return text(n)[50:74:74] }

// put is a change of a place by data, hole one to a hole, heading one of an object's head.
func put(set, obj, index int) api.Change {
	return api.Change{Set: set, Obj: obj, Index: index, Data: text(set*31 + obj*16 + index)}
}

func hole(set, obj, index int) api.Change {
	return api.Change{Set: set, Obj: obj, Index: index}
}

func heading(set, obj, kind int) api.Change {
	return api.Change{Set: set, Obj: obj, Index: head, Kind: uint8(kind), Links: kind * 9, Size: kind * 500}
}

// laid is a change of a place by what stands at a block already.
func laid(set, obj, index, at int) api.Change {
	return api.Change{Set: set, Obj: obj, Index: index, Laid: api.Ptr{At: at, Birth: uint32(at), Iv: uint32(at) << 16, Tag: uint32(at) << 24, Sum: uint32(at) * 65537}}
}

// holes are so many changes of one dataset, none of which has to be sealed.
func holes(set, many int) (l []api.Change) {
	for i := range many {
		l = append(l, hole(set, i/15, i%15))
	}
	return l
}

// puts are so many that have to be.
func puts(set, many int) (l []api.Change) {
	for i := range many {
		l = append(l, put(set, i/15, i%15))
	}
	return l
}

// base is a pool that may be, with datasets 1, 4, 9 and 255, and the snapshot 3 of dataset 1; 9 is a clone of that. The disk has other bytes in each block, and some writes wait.
func base() api.Pool {
	p := api.Pool{
		Store:    api.Store{Epoch: 7, Count: 299},
		Gen:      0x0a0b0c,
		Root:     api.Ptr{At: 14, Birth: 9},
		Meta:     []int{12, 13, 14},
		Keys:     make([][]byte, 8),
		Loaded:   make([][]byte, 8),
		NextId:   256,
		NextGuid: 41,
	}
	for at := range 256 {
		p.Store.Disk.Blocks = append(p.Store.Disk.Blocks, text(at))
		mark := byte(unused)
		if at < 20 {
			mark = used
		} else if at%8 == 3 {
			mark = byte(1 + at/8%2)
		}
		p.Store.Space = append(p.Store.Space, mark)
	}
	p.Store.Disk.Waits = []api.Write{{At: 200, Data: text(1)}, {At: 3, Data: text(2)}, {At: 200, Data: text(3)}}
	for _, k := range []int{0, 2, 5} {
		p.Keys[k], p.Loaded[k] = wrapped(k), key(k)
	}
	p.Lines = []api.Line{
		{Id: 1, Kind: isHead, Owner: 1, Prev: 3, Txg: 5, Guid: 10, Key: 2, Root: api.Ptr{At: 27, Birth: 8}, Dead: []api.Ptr{{At: 43, Birth: 1}}},
		{Id: 3, Kind: isSnap, Owner: 1, Txg: 5, Guid: 7, Key: 2, Root: api.Ptr{At: 59, Birth: 4}},
		{Id: 4, Kind: isHead, Owner: 4, Guid: 11, Key: 5},
		{Id: 9, Kind: isHead, Owner: 9, Prev: 3, Txg: 6, Guid: 12, Key: 2},
		{Id: 255, Kind: isHead, Owner: 255, Guid: 40, Key: 0},
	}
	return p
}

// with is p with these changes.
func with(p api.Pool, changes ...api.Change) api.Pool {
	p = slowTwin(p)
	p.Changes = changes
	return p
}

// mixed is base with changes of each kind, of three datasets, some of which were laid already, and with one block in its log.
func mixed() api.Pool {
	both := put(4, 2, 1)
	both.Laid = laid(4, 2, 1, 91).Laid
	p := with(base(),
		put(1, 0, 0), laid(1, 0, 5, 75), hole(1, 0, 14), heading(1, 0, 3), heading(1, 3, 0), put(1, 15, 14), heading(1, 15, 7),
		put(4, 2, 0), both, put(4, 2, 3), heading(4, 2, 1),
		laid(255, 1, 1, 107), hole(255, 1, 2),
	)
	p.Logged = 1
	return p
}

// logs is a pool in whose log these blocks stand, from number 0 on; behind them noughts.
func logs(p api.Pool, blocks ...[]byte) api.Pool {
	p = slowTwin(p)
	for n := range logBlocks {
		b := make([]byte, 256)
		if n < len(blocks) {
			b = blocks[n]
		}
		p.Store.Disk.Blocks[logFirst+n] = slices.Clone(b)
	}
	return p
}

// wantCommit asks that a commit is as the plain reading has it, and within, too, and for the error by hand; it tells the pool behind it.
func wantCommit(t *testing.T, what string, p api.Pool, set int, want api.Errno) api.Pool {
	t.Helper()
	if e := txg.Check(p); e != api.OK {
		t.Fatalf("%s: the pool may not be", what)
	}
	q, halves, e := plainCommit(p, set)
	got, told := log.Commit(p, set)
	if told != want || e != want {
		t.Errorf("%s: Commit: %d; by the plain reading %d; want %d", what, told, e, want)
	}
	if d := differ(got, q); d != "" {
		t.Errorf("%s: Commit: %s", what, d)
	}
	if told == api.OK && txg.Check(got) != api.OK {
		t.Errorf("%s: what Commit tells may not be", what)
	}
	for i, disk := range halves {
		if d, told := log.Half(p, set, i+1); told != want || !sameDisk(d, disk) {
			t.Errorf("%s: Half(.., %d): %d; want %d; another disk: %t", what, i+1, told, want, !sameDisk(d, disk))
		}
	}
	return got
}

// wantReplay asks that a pool is replayed as the plain reading has it, and for the error by hand.
func wantReplay(t *testing.T, what string, p api.Pool, want api.Errno) api.Pool {
	t.Helper()
	if e := txg.Check(p); e != api.OK {
		t.Fatalf("%s: the pool may not be", what)
	}
	q, e := plainReplay(p)
	got, told := log.Replay(p)
	if told != want || e != want {
		t.Errorf("%s: Replay: %d; by the plain reading %d; want %d", what, told, e, want)
	}
	if d := differ(got, q); d != "" {
		t.Errorf("%s: Replay: %s", what, d)
	}
	if told == api.OK && txg.Check(got) != api.OK {
		t.Errorf("%s: what Replay tells may not be", what)
	}
	return got
}

// wantLogged asks for the changes by hand, too, and for how many blocks they have.
func wantLogged(t *testing.T, what string, p api.Pool, blocks int, changes ...api.Change) {
	t.Helper()
	q := wantReplay(t, what, p, api.OK)
	if q.Logged != blocks || fmt.Sprint(q.Changes) != fmt.Sprint(changes) {
		t.Errorf("%s: %d blocks, %v; want %d, %v", what, q.Logged, q.Changes, blocks, changes)
	}
}
