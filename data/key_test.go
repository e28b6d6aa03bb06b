package data_test

import (
	"bytes"
	"fmt"
	"slices"
	"strings"
	"testing"

	"charterhouse/api"
	"charterhouse/data"
)

// Pools that may not be are refused ahead of all else, and then numbers of no line.
func TestP20All(t *testing.T) {
	for what, p := range badPools(t) {
		for _, id := range []int{0, one, snap, 5} {
			wantRefused(t, what, p, id, api.ErrBad)
		}
	}
	p := busy(t)
	for _, id := range noIds() {
		wantRefused(t, "no line", p, id, api.ErrNone)
	}
	p.Loaded = make([][]byte, 8)
	wantRefused(t, "no line, no key", p, 5, api.ErrNone)
}

// A line is told whole, and just that one.
func TestP202Line(t *testing.T) {
	p := busy(t)
	for i, id := range lineIds() {
		wantLine(t, "busy", p, id, api.OK)
		if l, e := data.Line(p, id); e != api.OK || l.Id != id || fmt.Sprint(l) != fmt.Sprint(p.Lines[i]) {
			t.Errorf("line %d: %v, %d", id, l, e)
		}
	}
	if l, _ := data.Line(p, copied); len(l.Dead) == 0 || l.Prev != snap || l.Key != 2 {
		t.Errorf("the clone: %v", l)
	}
	for id := -3; id < 260; id++ {
		want := api.ErrNone
		if slices.Contains(lineIds(), id) {
			want = api.OK
		}
		wantLine(t, "any number", p, id, want)
		wantLine(t, "without keys", loaded(p), id, want)
	}
}

// A key is loaded by its own passphrase, by whichever line it is asked for; no other key is.
func TestP202Load(t *testing.T) {
	for id, n := range map[int]int{one: 2, snap: 2, copied: 2, other: 5, last: 5, locked: 0} {
		for _, was := range [][]int{nil, {n}, {2, 5}, {0, 1, 2, 3, 4, 5, 6, 7}} {
			p := loaded(busy(t), was...)
			q := wantLoad(t, fmt.Sprint("loaded ", was), p, id, pass(n), api.OK)
			want := loaded(p, append(was, n)...)
			if d := differ(q, want); d != "" || !bytes.Equal(q.Loaded[n], key(n)) {
				t.Errorf("line %d: %s", id, d)
			}
		}
		p := busy(t)
		p.Loaded[n] = key(99)
		if q := wantLoad(t, "another key was loaded", p, id, pass(n), api.OK); !bytes.Equal(q.Loaded[n], key(n)) {
			t.Errorf("line %d: % x is loaded", id, q.Loaded[n])
		}
	}
}

// Passphrases that may not be, and others than a key's own; also of a key that is loaded.
func TestP202Pass(t *testing.T) {
	p := busy(t)
	for _, p := range []api.Pool{p, loaded(p)} {
		for _, wrong := range []string{"", "pass", "pass 5", "pass 2 ", " pass 2", "Pass 2", "pass 2\x00", strings.Repeat("x", 64)} {
			wantLoad(t, "another passphrase", p, one, wrong, api.ErrPass)
		}
		for _, long := range []int{65, 66, 128, 1 << 16} {
			wantLoad(t, "a long passphrase", p, one, strings.Repeat("x", long), api.ErrText)
			wantLoad(t, "a long one, and no key", p, bare, strings.Repeat("x", long), api.ErrText)
		}
		for _, any := range []string{"", pass(6), strings.Repeat("x", 64)} {
			wantLoad(t, "no key", p, bare, any, api.ErrBad)
		}
	}
	for i := range 24 {
		p := busy(t)
		p.Keys[2][i] ^= 16
		wantLoad(t, fmt.Sprint("byte ", i, " is turned"), p, one, pass(2), api.ErrPass)
		wantLoad(t, fmt.Sprint("byte ", i, " of another one"), p, other, pass(5), api.OK)
	}
	long := strings.Repeat("\xc3\xa9", 32)
	p.Keys[2] = slowWrap(long, key(2), 1)
	wantLoad(t, "64 bytes", loaded(p), one, long, api.OK)
	p.Keys[2] = slowWrap("", key(2), 1<<32-1)
	wantLoad(t, "no bytes", loaded(p), one, "", api.OK)
}

// A key that is unloaded is so for all lines that have it; all changes were synced.
func TestP202Unload(t *testing.T) {
	for id, n := range map[int]int{one: 2, snap: 2, copied: 2, other: 5, last: 5, bare: 6} {
		p := busy(t)
		q := wantUnload(t, "busy", p, id, api.OK)
		if len(q.Changes) > 0 || q.Gen != p.Gen+1 || len(q.Loaded) != 8 || len(q.Loaded[n]) > 0 || fmt.Sprint(q.Keys) != fmt.Sprint(p.Keys) {
			t.Errorf("line %d: %d changes, Gen %d, loaded %v", id, len(q.Changes), q.Gen, q.Loaded)
		}
		for _, k := range []int{2, 5, 6} {
			if k != n && !bytes.Equal(q.Loaded[k], key(k)) {
				t.Errorf("line %d: key %d is not loaded any more", id, k)
			}
		}
		for _, l := range q.Lines {
			if want := []api.Errno{api.OK, api.ErrKey}; l.Key == n && l.Kind == isHead {
				wantSet(t, "unloaded", q, l.Id, 0, 1, 1, 1, want[1])
			} else if l.Kind == isHead && l.Key > 0 {
				wantSet(t, "another key", q, l.Id, 0, 1, 1, 1, want[0])
			}
		}
		wantUnload(t, "once more", q, id, api.ErrKey)
		p.Loaded[0], q.Loaded[0] = key(0), key(0)
		q.Loaded[n] = key(n)
		wantStanding(t, fmt.Sprint("unloaded by ", id, ", and loaded"), q, lineIds())
	}
}

// A key that is not loaded is told ahead of what a sync would; else the sync's error is the call's.
func TestP202UnloadErrors(t *testing.T) {
	p := busy(t)
	wantUnload(t, "not loaded", p, locked, api.ErrKey)
	for _, id := range lineIds() {
		wantUnload(t, "nothing is loaded", loaded(p), id, api.ErrKey)
	}
	p.Gen = mostTxg
	wantUnload(t, "the last sync", p, one, api.ErrFull)
	wantUnload(t, "the last sync, not loaded", p, locked, api.ErrKey)
	p = with(loaded(base(t), 2), put(one, 0, 0, 1), put(other, 0, 0, 2))
	wantUnload(t, "changes without a key", p, one, api.ErrKey)
	p = with(base(t), put(one, 0, 0, 1))
	p.Store.Count = mostCount
	wantUnload(t, "no number is left", p, other, api.ErrIv)
	p = base(t)
	p.Store.Disk.Blocks[p.Lines[0].Root.At][9] ^= 1
	wantUnload(t, "a root that is turned", with(p, hole(one, 0, 0)), one, api.ErrSum)
	wantUnload(t, "a root that is turned, not changed", p, one, api.OK)
	for at := range p.Store.Space {
		p.Store.Space[at] = used
	}
	wantUnload(t, "no room", p, one, api.ErrFull)
}
