package data_test

import (
	"bytes"
	"fmt"
	"slices"
	"strings"
	"testing"

	"charterhouse/api"
	"charterhouse/data"
	"charterhouse/txg"
	"charterhouse/wrap"
)

// A dataset in a new pool, field by field.
func TestP201New(t *testing.T) {
	p := synced(t, txg.New())
	q, id := wantCreate(t, "a new pool", p, "a", key(3), api.OK)
	want := api.Line{Id: 1, Kind: isHead, Owner: 1, Prev: 0, Txg: 1, Guid: 1, Key: 0}
	if id != 1 || len(q.Lines) != 1 || fmt.Sprint(q.Lines[0]) != fmt.Sprint(want) {
		t.Errorf("Id %d, lines %v; want %v", id, q.Lines, want)
	}
	if q.Gen != 2 || q.NextId != 2 || q.NextGuid != 3 || len(q.Changes)+len(q.Store.Disk.Waits) > 0 {
		t.Errorf("Gen %d, next %d %d, %d changes, %d writes wait", q.Gen, q.NextId, q.NextGuid, len(q.Changes), len(q.Store.Disk.Waits))
	}
	if !bytes.Equal(q.Keys[0], slowWrap("a", key(3), 1)) || !bytes.Equal(q.Loaded[0], key(3)) {
		t.Errorf("key % x, loaded % x", q.Keys[0], q.Loaded[0])
	}
	for n := 1; n < 8; n++ {
		if len(q.Keys[n])+len(q.Loaded[n]) > 0 {
			t.Errorf("key %d is there, too", n)
		}
	}
}

// A pool that was never synced is synced by it.
func TestP201NeverSynced(t *testing.T) {
	q, id := wantCreate(t, "never synced", txg.New(), "", key(0), api.OK)
	if id != 1 || q.Gen != 1 || q.Lines[0].Txg != 0 {
		t.Errorf("Id %d, Gen %d, line %v", id, q.Gen, q.Lines[0])
	}
}

// One dataset behind the other has the next Id, a Guid that is two more, and the next key; each keeps its own.
func TestP201Again(t *testing.T) {
	for _, side := range []uint32{1, 2} {
		p := txg.New()
		p.Store.Epoch, p.NextGuid = side, side
		p = synced(t, p)
		for n := range 8 {
			q, id := wantCreate(t, fmt.Sprint("dataset ", n+1), p, pass(n), key(n), api.OK)
			l := q.Lines[n]
			if id != n+1 || l.Id != id || l.Guid != side+uint32(2*n) || l.Key != n || l.Txg != p.Gen || l.Root != none || len(l.Dead) > 0 {
				t.Errorf("dataset %d: Id %d, %v", n+1, id, l)
			}
			p = q
		}
		for n := range 8 {
			if k, e := wrap.Unwrap(pass(n), p.Keys[n]); e != api.OK || !bytes.Equal(k, key(n)) || !bytes.Equal(p.Loaded[n], key(n)) {
				t.Errorf("key %d: % x, %d; loaded % x", n, k, e, p.Loaded[n])
			}
		}
		wantCreate(t, "the ninth key", p, "x", key(9), api.ErrFull)
	}
}

// The key goes to the first empty place, whichever that is, and takes the place of one that is loaded there.
func TestP201Keys(t *testing.T) {
	for empty := range 256 {
		p := synced(t, txg.New())
		first := -1
		for n := range 8 {
			if empty>>n&1 == 0 {
				lock(&p, n)
			} else if first < 0 {
				first = n
			}
			if n%2 > 0 {
				p.Loaded[n] = key(n)
			}
		}
		if first < 0 {
			wantCreate(t, "all keys", p, "", key(200), api.ErrFull)
			continue
		}
		q, _ := wantCreate(t, fmt.Sprintf("empty %08b", empty), p, "pass", key(200), api.OK)
		if q.Lines[0].Key != first || !bytes.Equal(q.Loaded[first], key(200)) {
			t.Errorf("empty %08b: key %d", empty, q.Lines[0].Key)
		}
		for n := range 8 {
			if n != first && (!bytes.Equal(q.Keys[n], p.Keys[n]) || !bytes.Equal(q.Loaded[n], p.Loaded[n])) {
				t.Errorf("empty %08b: key %d is another one", empty, n)
			}
		}
	}
}

// A pool with lines, keys and changes: all that was done is synced, and stays.
func TestP201Busy(t *testing.T) {
	p := busy(t)
	p.Lines = p.Lines[:len(p.Lines)-1] // so that an Id is left
	p.NextId = 17
	q, id := wantCreate(t, "busy", p, strings.Repeat("x", 64), key(77), api.OK)
	if id != 17 || q.NextId != 18 || q.NextGuid != 1003 || len(q.Changes) > 0 || q.Gen != p.Gen+1 {
		t.Errorf("Id %d, next %d %d, %d changes, Gen %d", id, q.NextId, q.NextGuid, len(q.Changes), q.Gen)
	}
	wantStanding(t, "busy", loaded(q, 0, 2, 5, 6), without(last))
	for obj := range 16 {
		wantGet(t, "the new one", q, 17, obj, 0, api.ErrNone)
	}
}

// Keys and passphrases that may not be, in the order in which they are looked for: behind the pool, ahead of room.
func TestP201Texts(t *testing.T) {
	p := synced(t, txg.New())
	full := slowTwin(p)
	full.NextId = 256
	last := slowTwin(p)
	last.Gen = mostTxg
	for n := range 70 {
		long := slices.Repeat([]byte{7}, n)
		text, want := strings.Repeat("\xff", n), api.OK
		if n != 16 {
			wantCreate(t, "a key", p, "", long, api.ErrText)
			wantCreate(t, "a key, no room", full, "", long, api.ErrText)
			wantCreate(t, "a key, no sync", last, "", long, api.ErrText)
			wantCreate(t, "both", p, strings.Repeat("x", 65), long, api.ErrText)
		}
		if n > 64 {
			want = api.ErrText
			wantCreate(t, "a passphrase, no room", full, text, key(1), api.ErrText)
			wantCreate(t, "a passphrase, no sync", last, text, key(1), api.ErrText)
		}
		wantCreate(t, fmt.Sprint("a passphrase of ", n), p, text, key(1), want)
	}
	wantCreate(t, "a passphrase of noughts", p, "\x00\x00", key(1), api.OK)
	wantCreate(t, "a long passphrase", p, strings.Repeat("x", 1<<16), key(1), api.ErrText)
	wantCreate(t, "a key of noughts", p, "", make([]byte, 16), api.OK)
	for what, bad := range badPools(t) {
		wantCreate(t, what, bad, "", key(1), api.ErrBad)
		wantCreate(t, what+", a key", bad, "", nil, api.ErrBad)
		wantCreate(t, what+", a passphrase", bad, strings.Repeat("x", 65), key(1), api.ErrBad)
	}
}

// lines is a pool with so many datasets, all of one key.
func lines(t *testing.T, many int) api.Pool {
	p := synced(t, txg.New())
	lock(&p, 0)
	for n := range many {
		p.Lines = append(p.Lines, api.Line{Id: n + 1, Kind: isHead, Owner: n + 1, Txg: 1, Guid: uint32(n + 1)})
	}
	p.NextId, p.NextGuid = many+1, uint32(many+1)
	return p
}

// Each way in which there is no room, at its edge; each alone is enough.
func TestP201Full(t *testing.T) {
	for many := range 17 {
		want := api.OK
		if many == 16 {
			want = api.ErrFull
		}
		wantCreate(t, fmt.Sprint(many, " lines"), lines(t, many), "", key(1), want)
	}
	for id := 1; id <= 256; id++ {
		p := synced(t, txg.New())
		p.NextId = id
		want := api.OK
		if id == 256 {
			want = api.ErrFull
		}
		if q, now := wantCreate(t, fmt.Sprint("NextId ", id), p, "", key(1), want); want == api.OK && (now != id || q.Lines[0].Owner != id || q.NextId != id+1) {
			t.Errorf("NextId %d: %d, %v", id, now, q.Lines)
		}
	}
	for guid, want := range map[uint32]api.Errno{0: 0, 1: 0, 2: 0, 255: 0, 256: 0, 65535: 0, 1 << 24: 0, 1<<31 - 1: 0, 1 << 31: 0, 1<<32 - 5: 0, 1<<32 - 4: 0, 1<<32 - 3: 0, 1<<32 - 2: api.ErrFull, 1<<32 - 1: api.ErrFull} {
		p := synced(t, txg.New())
		p.NextGuid = guid
		q, _ := wantCreate(t, fmt.Sprint("NextGuid ", guid), p, "x", key(1), want)
		if want != api.OK {
			continue
		}
		if q.Lines[0].Guid != guid || q.NextGuid != guid+2 || slowNumber(q.Keys[0][:4]) != guid {
			t.Errorf("NextGuid %d: %d, then %d; salt % x", guid, q.Lines[0].Guid, q.NextGuid, q.Keys[0][:4])
		}
	}
}

// Where there is no room, that is told ahead of what the sync would.
func TestP201Order(t *testing.T) {
	p := with(loaded(base(t)), put(one, 0, 0, 1))
	wantCreate(t, "NextId, and a change without a key", p, "", key(1), api.ErrFull)
	p.Lines, p.NextId = p.Lines[:len(p.Lines)-1], 12
	wantCreate(t, "a change without a key", p, "", key(1), api.ErrKey)
	p.Gen = mostTxg
	wantCreate(t, "the last sync, and that", p, "", key(1), api.ErrFull)
}

// The first error of the sync is the call's.
func TestP201Sync(t *testing.T) {
	p := synced(t, txg.New())
	p.Gen = mostTxg - 1
	q, _ := wantCreate(t, "the last sync but one", p, "", key(1), api.OK)
	wantCreate(t, "the last sync", q, "", key(2), api.ErrFull)
	// The line's block, the keys' and the root's are laid.
	for free := range 6 {
		p := synced(t, txg.New())
		left := free
		for at := firstBlock; at < 256; at++ {
			if p.Store.Space[at] == unused {
				if left > 0 {
					left--
					continue
				}
				p.Store.Space[at] = used
			}
		}
		want := api.OK
		if free < 3 {
			want = api.ErrFull
		}
		wantCreate(t, fmt.Sprint(free, " blocks are free"), p, "", key(1), want)
	}
	broken := base(t)
	broken.Lines, broken.NextId = broken.Lines[:6], 12
	root := broken.Lines[0].Root
	broken.Store.Disk.Blocks[root.At][0] ^= 1
	wantCreate(t, "a root that is turned, of a line that is not changed", broken, "", key(1), api.OK)
	wantCreate(t, "a root that is turned", with(broken, hole(one, 0, 0)), "", key(1), api.ErrSum)
}

// without are busy's lines, but this one.
func without(id int) []int {
	return slices.DeleteFunc(lineIds(), func(one int) bool { return one == id })
}

// wantStanding asks for all that these lines of busy have: heads, and what stands at all places.
func wantStanding(t *testing.T, what string, p api.Pool, ids []int) {
	t.Helper()
	texts, heads := standing(), kinds()
	for _, id := range ids {
		for obj := range 16 {
			kind := heads[id][obj]
			want := api.OK
			if kind == 0 {
				want = api.ErrNone
			}
			wantGet(t, what, p, id, obj, kind, want)
			for index := range 15 {
				switch n, there := texts[[3]int{id, obj, index}]; {
				case kind == 0:
					wantRead(t, what, p, id, obj, index, nil, api.ErrNone)
				case there:
					wantRead(t, what, p, id, obj, index, text(n), api.OK)
				default:
					wantRead(t, what, p, id, obj, index, noughts(), api.OK)
				}
			}
		}
	}
}

// What is answered beside the Id is one that all other calls take.
func TestP201GoesOn(t *testing.T) {
	p, id := wantCreate(t, "P", synced(t, txg.New()), "a", key(1), api.OK)
	p = wantSet(t, "P", p, id, 15, 7, 255, 3840, api.OK)
	p = wantEdit(t, "P", p, id, 15, 14, text(1), api.OK)
	p, second := wantCreate(t, "P", p, "b", key(2), api.OK)
	p = wantSet(t, "P", p, second, 0, 1, 1, 1, api.OK)
	p = wantEdit(t, "P", p, second, 0, 0, text(2), api.OK)
	wantRead(t, "P", p, id, 15, 14, text(1), api.OK)
	wantRead(t, "P", p, second, 0, 0, text(2), api.OK)
	if _, _, e := data.Create(p, "c", key(3)); e != api.OK {
		t.Errorf("a third one: %d", e)
	}
}
