package mount_test

import (
	"fmt"
	"testing"

	"charterhouse/api"
	"charterhouse/log"
	"charterhouse/txg"
)

// choices are lists of marks for what waits: all of them, if they are few; else none, all, each alone, all but each, and some by lot.
func choices(d api.Disk) (all [][]bool) {
	many := len(d.Waits)
	list := func(is func(i int) bool) {
		keep := make([]bool, many)
		for i := range keep {
			keep[i] = is(i)
		}
		all = append(all, keep)
	}
	if many < 7 {
		for n := range 1 << many {
			list(func(i int) bool { return n>>i&1 > 0 })
		}
		return all
	}
	list(func(int) bool { return false })
	list(func(int) bool { return true })
	for n := range many {
		list(func(i int) bool { return i == n })
		list(func(i int) bool { return i != n })
	}
	c := chances(many)
	for range 20 {
		list(func(int) bool { return c.of(2) > 0 })
	}
	return all
}

func halfSync(t *testing.T, p api.Pool, phase int) api.Disk {
	t.Helper()
	d, e := txg.Half(p, phase)
	if e != api.OK || len(d.Waits) == 0 {
		t.Fatalf("within a sync, phase %d: %d wait, error %d", phase, len(d.Waits), e)
	}
	return d
}

func halfCommit(t *testing.T, p api.Pool, set, phase int) api.Disk {
	t.Helper()
	d, e := log.Half(p, set, phase)
	if e != api.OK || len(d.Waits) == 0 {
		t.Fatalf("within a commit, phase %d: %d wait, error %d", phase, len(d.Waits), e)
	}
	return d
}

// busy is base with a commit of dataset 1 in its log, and with changes of others that are in none.
func busy(t *testing.T, side int) api.Pool {
	p := with(base(t, side), put(1, 0, 0, 70), hole(1, 0, 3), put(1, 7, 3, 71), heading(1, 9, 1), put(3, 0, 0, 72), put(4, 3, 9, 73), heading(4, 3, 0))
	return committed(t, p, 1)
}

// wantLines asks that a pool has the lines of another one, but for where things are.
func wantLines(t *testing.T, what string, p, of api.Pool) {
	t.Helper()
	plain := func(p api.Pool) string {
		told := fmt.Sprint(p.NextId, p.NextGuid, p.Keys)
		for _, l := range p.Lines {
			told += fmt.Sprint(" ", l.Id, l.Kind, l.Owner, l.Prev, l.Txg, l.Guid, l.Key)
		}
		return told
	}
	if plain(p) != plain(of) {
		t.Errorf("%s: lines %s; want %s", what, plain(p), plain(of))
	}
}

// Power fails within a sync: its pool is opened, if its label was kept, or the one ahead of it, with its log.
func TestP193Sync(t *testing.T) {
	for side := range 2 {
		p := busy(t, side)
		behind := synced(t, p)
		ahead, e := plainLasting(p.Store.Disk)
		if e != api.OK {
			t.Fatal(e)
		}
		was, now := contents(t, ahead), contents(t, behind)
		if sameThings(was, now) || sameThings(was, contents(t, base(t, side))) {
			t.Fatal("no log, or nothing but it")
		}
		for phase := 1; phase < 3; phase++ {
			d := halfSync(t, p, phase)
			for _, keep := range choices(d) {
				what := fmt.Sprint("side ", side, ", phase ", phase, ", ", keep)
				want, gen := was, uint32(5)
				if phase == 2 && keep[0] {
					want, gen = now, 6
				}
				q := wantCrash(t, what, on(p, d), keep, api.OK)
				if q.Gen != gen || q.Store.Epoch != uint32(3+side) || !sameThings(contents(t, q), want) {
					t.Errorf("%s: Gen %d, Epoch %d, or other objects", what, q.Gen, q.Store.Epoch)
				}
				wantLines(t, what, q, p)
			}
		}
	}
}

// Power fails within a commit: it is there, if all its log was kept, or not; what was in the log ahead of it is.
func TestP193Commit(t *testing.T) {
	p := busy(t, 1)
	var many []api.Change
	for n := range 3 {
		many = append(many, puts(3, n, 15)...)
	}
	p = with(p, append(many, p.Changes[len(p.Changes)-2:]...)...)
	ahead, e := plainLasting(p.Store.Disk)
	if e != api.OK {
		t.Fatal(e)
	}
	was, now := contents(t, ahead), contents(t, ahead)
	now[3] = contents(t, p)[3]
	for phase := 1; phase < 3; phase++ {
		d := halfCommit(t, p, 3, phase)
		for _, keep := range choices(d) {
			what := fmt.Sprint("phase ", phase, ", ", keep)
			want := now
			for _, is := range keep {
				if phase == 1 || !is {
					want = was
				}
			}
			q := wantCrash(t, what, on(p, d), keep, api.OK)
			if q.Gen != 5 || !sameThings(contents(t, q), want) {
				t.Errorf("%s: Gen %d, or other objects", what, q.Gen)
			}
			wantLines(t, what, q, p)
		}
	}
}

// opening is the pool of a disk ahead of its sync.
func opening(t *testing.T, d api.Disk) api.Pool {
	t.Helper()
	p, e := plainLasting(d)
	if e != api.OK {
		t.Fatal(e)
	}
	p.Store.Epoch += 2
	return p
}

// Power fails within an opening: till its label lasts the next one comes to the same pool, as if it had not begun; then to the pool behind it.
func TestP193Opening(t *testing.T) {
	for what, p := range map[string]api.Pool{"a log": busy(t, 0), "no log": base(t, 1), "no lines": formatted(t, 1)} {
		want := wantOpen(t, what, p.Store.Disk, api.OK)
		then := wantOpen(t, what, want.Store.Disk, api.OK)
		for phase := 1; phase < 3; phase++ {
			half := opening(t, p.Store.Disk)
			half.Store.Disk = halfSync(t, half, phase)
			for _, keep := range choices(half.Store.Disk) {
				what := fmt.Sprint(what, ", phase ", phase, ", ", keep)
				want := want
				if phase == 2 && keep[0] {
					want = then
				}
				if q := wantCrash(t, what, half, keep, api.OK); differ(q, want) != "" {
					t.Errorf("%s: %s", what, differ(q, want))
				}
			}
		}
	}
}

// Power fails within each of many openings, one behind the other.
func TestP193Openings(t *testing.T) {
	for seed := range 20 {
		c := chances(seed)
		p := busy(t, seed%2)
		want, d, lasted := wantOpen(t, "at once", p.Store.Disk, api.OK), p.Store.Disk, 0
		for range 12 {
			half := opening(t, d)
			phase := 1 + c.of(2)
			d = halfSync(t, half, phase)
			keep := c.marks(d)
			if phase == 2 && keep[0] {
				lasted++
			}
			d = left(d, keep)
		}
		q := wantOpen(t, fmt.Sprint("seed ", seed), d, api.OK)
		if q.Gen != want.Gen+uint32(lasted) || q.Store.Epoch != want.Store.Epoch+2*uint32(lasted) || !sameThings(contents(t, q), contents(t, want)) {
			t.Errorf("seed %d: %d lasted; Gen %d, Epoch %d, or other objects", seed, lasted, q.Gen, q.Store.Epoch)
		}
		wantLines(t, fmt.Sprint("seed ", seed), q, want)
	}
}

// No key is loaded, whatever was; the wrapped ones are there.
func TestP193Keys(t *testing.T) {
	p := base(t, 0)
	for i := range p.Loaded {
		p.Loaded[i] = key(i)
	}
	for what, q := range map[string]api.Pool{"Open": wantOpen(t, "Open", p.Store.Disk, api.OK), "Crash": wantCrash(t, "Crash", p, nil, api.OK)} {
		for i := range q.Loaded {
			if len(q.Loaded[i]) > 0 || fmt.Sprint(q.Keys[i]) != fmt.Sprint(p.Keys[i]) {
				t.Errorf("%s: key %d is %v, loaded %v", what, i, q.Keys[i], q.Loaded[i])
			}
		}
		q.Changes = []api.Change{put(1, 0, 0, 1)}
		if _, e := txg.Sync(q); e != api.ErrKey {
			t.Errorf("%s: it seals without a key: %d", what, e)
		}
	}
}

// The numbers of a pool that is opened are above all that were given out, on each side on its own ones.
func TestP193Numbers(t *testing.T) {
	for side := range 2 {
		p := base(t, side)
		last := uint32(0)
		for n := range 20 {
			p = with(p, put(1, 0, n%15, n), put(4, 3, 2, n))
			var q api.Pool
			if n%2 == 0 {
				q = committed(t, p, 1)
				if iv := q.Changes[0].Laid.Iv; iv <= last {
					t.Errorf("side %d: number %d behind %d", side, iv, last)
				}
			} else {
				q = synced(t, p)
			}
			last = q.Store.Epoch<<16 + q.Store.Count
			if q.Store.Epoch%2 != uint32(1+side)%2 {
				t.Errorf("side %d: Epoch %d", side, q.Store.Epoch)
			}
			p = wantCrash(t, fmt.Sprint("crash ", n), q, nil, api.OK)
			if p.Store.Epoch<<16 <= last {
				t.Errorf("side %d: Epoch %d, but number %d was given out", side, p.Store.Epoch, last)
			}
		}
	}
}
