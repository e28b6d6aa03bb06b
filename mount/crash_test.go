package mount_test

import (
	"fmt"
	"slices"
	"testing"

	"charterhouse/api"
	"charterhouse/log"
	"charterhouse/mount"
	"charterhouse/set"
	"charterhouse/txg"
)

// badPools are none. What waits on their disks is one write.
func badPools(t *testing.T) map[string]api.Pool {
	all := map[string]api.Pool{"none": {}}
	for what, turn := range map[string]func(p *api.Pool){
		"no disk":             func(p *api.Pool) { p.Store.Disk = api.Disk{} },
		"a short block":       func(p *api.Pool) { p.Store.Disk.Blocks[4] = text(1)[:5] },
		"a short write":       func(p *api.Pool) { p.Store.Disk.Waits[0].Data = nil },
		"no labels":           func(p *api.Pool) { p.Store.Disk.Blocks = p.Store.Disk.Blocks[4:] },
		"no table":            func(p *api.Pool) { p.Store.Space = nil },
		"a free label":        func(p *api.Pool) { p.Store.Space[1] = unused },
		"Epoch 0":             func(p *api.Pool) { p.Store.Epoch = 0 },
		"too great an Epoch":  func(p *api.Pool) { p.Store.Epoch = mostEpoch + 1 },
		"too great a Count":   func(p *api.Pool) { p.Store.Count = mostCount + 1 },
		"Gen 0, but a Root":   func(p *api.Pool) { p.Gen = 0 },
		"too great a Gen":     func(p *api.Pool) { p.Gen = mostTxg + 1 },
		"no Root":             func(p *api.Pool) { p.Root = none },
		"Meta is not used":    func(p *api.Pool) { p.Meta = []int{255} },
		"lines that fall":     func(p *api.Pool) { slices.Reverse(p.Lines) },
		"a line of Id 0":      func(p *api.Pool) { p.Lines[0].Id, p.Lines[0].Owner = 0, 0 },
		"a snapshot of none":  func(p *api.Pool) { p.Lines[1].Owner = 9 },
		"no keys":             func(p *api.Pool) { p.Keys = nil },
		"no loaded keys":      func(p *api.Pool) { p.Loaded = p.Loaded[:7] },
		"a short key":         func(p *api.Pool) { p.Loaded[2] = key(1)[:15] },
		"changes of none":     func(p *api.Pool) { p.Changes = []api.Change{hole(7, 0, 0)} },
		"changes of a frozen": func(p *api.Pool) { p.Changes = []api.Change{hole(2, 0, 0)} },
		"less than no log":    func(p *api.Pool) { p.Logged = -1 },
		"too long a log":      func(p *api.Pool) { p.Logged = 9 },
		"NextId is there":     func(p *api.Pool) { p.NextId = 4 },
		"NextId 0, no lines":  func(p *api.Pool) { p.Lines, p.Changes, p.NextId = nil, nil, 0 },
		"NextGuid is there":   func(p *api.Pool) { p.NextGuid = 7 },
	} {
		p := with(base(t, 0))
		p.Store.Disk.Waits = []api.Write{{At: 200, Data: text(1)}}
		turn(&p)
		all[what] = p
	}
	return all
}

// A pool that may not be is refused, also where the marks are wrong, or too few.
func TestP191BadPools(t *testing.T) {
	for what, p := range badPools(t) {
		for many := range 4 {
			if q, e := mount.Crash(p, make([]bool, many)); e != api.ErrBad || !isZero(q) {
				t.Errorf("%s, %d marks: %d", what, many, e)
			}
		}
	}
}

// waiting is base with so many writes that wait for blocks that nobody has.
func waiting(t *testing.T, many int) api.Pool {
	p := base(t, 0)
	for i := range many {
		p.Store.Disk.Waits = append(p.Store.Disk.Waits, api.Write{At: 200 + i%50, Data: text(i)})
	}
	return p
}

// There is a mark for each write that waits, no less and no more; that is asked ahead of what is left.
func TestP191Marks(t *testing.T) {
	bare, full := txg.New(), epochs(t, 1, mostEpoch)
	for many := range 4 {
		p := waiting(t, many)
		pools := map[string]api.Pool{"base": p, "New": on(bare, txg.New().Store.Disk), "full": on(full, full.Store.Disk)}
		for what, p := range pools {
			p.Store.Disk.Waits = waiting(t, many).Store.Disk.Waits
			for marks := range 6 {
				if marks == many {
					continue
				}
				if q, e := mount.Crash(p, slices.Repeat([]bool{true}, marks)); e != api.ErrArg || !isZero(q) {
					t.Errorf("%s, %d wait, %d marks: %d", what, many, marks, e)
				}
			}
			want := map[string]api.Errno{"New": api.ErrDisk, "full": api.ErrFull}[what]
			wantCrash(t, fmt.Sprint(what, ", ", many, " wait"), p, make([]bool, many), want)
		}
	}
	p := waiting(t, 4096)
	wantCrash(t, "as many as may be", p, make([]bool, 4096), api.OK)
	wantCrash(t, "as many as may be, all kept", p, slices.Repeat([]bool{true}, 4096), api.OK)
	for _, marks := range []int{0, 1, 4095, 4097, 1 << 16} {
		if q, e := mount.Crash(p, make([]bool, marks)); e != api.ErrArg || !isZero(q) {
			t.Errorf("4096 wait, %d marks: %d", marks, e)
		}
	}
}

// A list of marks without elements may be nil or not.
func TestP191NoMarks(t *testing.T) {
	p := base(t, 1)
	a := wantCrash(t, "nil", p, nil, api.OK)
	b := wantCrash(t, "without elements", p, []bool{}, api.OK)
	c := wantOpen(t, "the disk itself", p.Store.Disk, api.OK)
	if differ(a, b) != "" || differ(a, c) != "" {
		t.Error("another pool")
	}
}

// What a crash leaves hangs on the disk alone: nothing else of the pool counts, if only it may be.
func TestP191DiskAlone(t *testing.T) {
	p := waiting(t, 2)
	keep := []bool{true, false}
	want := wantCrash(t, "base", p, keep, api.OK)
	for what, turn := range map[string]func(p *api.Pool){
		"another Epoch": func(p *api.Pool) { p.Store.Epoch, p.Store.Count = 77, 78 },
		"the last ones": func(p *api.Pool) { p.Store.Epoch, p.Gen = mostEpoch, mostTxg },
		"no lines":      func(p *api.Pool) { p.Lines = nil },
		"other lines":   func(p *api.Pool) { p.Lines = p.Lines[:3] },
		"other keys":    func(p *api.Pool) { p.Keys[2], p.Loaded[1] = wrapped(9), key(3) },
		"changes":       func(p *api.Pool) { p.Changes = []api.Change{put(1, 0, 0, 9)} },
		"logged":        func(p *api.Pool) { p.Logged = 8 },
		"next ones":     func(p *api.Pool) { p.NextId, p.NextGuid = 256, 1<<32-1 },
		"never synced":  func(p *api.Pool) { *p = on(txg.New(), p.Store.Disk) },
		"all is used": func(p *api.Pool) {
			for at := range p.Store.Space {
				p.Store.Space[at] = used
			}
		},
		"Meta": func(p *api.Pool) { p.Meta = nil },
		"Root": func(p *api.Pool) { p.Root = api.Ptr{At: 99, Birth: 3, Sum: 4} },
	} {
		q := slowTwin(p)
		turn(&q)
		if q = wantCrash(t, what, q, keep, api.OK); differ(q, want) != "" {
			t.Errorf("%s: %s", what, differ(q, want))
		}
	}
}

// Each choice of marks, of writes that matter: labels, a log, and blocks that others have.
func TestP191EachChoice(t *testing.T) {
	p := with(base(t, 0), put(1, 2, 0, 60), heading(1, 2, 1))
	logged := committed(t, p, 1)
	next := synced(t, logged)
	d := slowTwinDisk(p.Store.Disk)
	wait := func(at int, b []byte) { d.Waits = append(d.Waits, api.Write{At: at, Data: b}) }
	wait(logFirst, logged.Store.Disk.Blocks[logFirst])
	wait(int(p.Gen%4), make([]byte, 256))
	for at := firstBlock; at < 256; at++ {
		if !slices.Equal(next.Store.Disk.Blocks[at], d.Blocks[at]) && p.Store.Space[at] == unused {
			d.Blocks[at] = next.Store.Disk.Blocks[at]
		}
	}
	wait(int(next.Gen%4), next.Store.Disk.Blocks[next.Gen%4])
	wait(int(p.Gen%4), p.Store.Disk.Blocks[p.Gen%4])
	wait(next.Root.At, text(1))
	wait(logFirst, text(2))
	told := map[string]int{}
	for n := range 64 {
		keep := make([]bool, 6)
		for i := range keep {
			keep[i] = n>>i&1 > 0
		}
		want := api.OK
		if _, e := plainOpen(left(d, keep)); e != api.OK {
			want = api.ErrDisk
		}
		q := wantCrash(t, fmt.Sprint("choice ", keep), on(p, d), keep, want)
		told[fmt.Sprint(want, q.Gen, len(q.Lines))]++
	}
	if len(told) < 3 {
		t.Errorf("choices come to %v", told)
	}
}

// filledUp is a pool of a dataset whose blocks leave so many free.
func filledUp(t *testing.T, free int) api.Pool {
	t.Helper()
	p := formatted(t, 0)
	p.Keys[2] = wrapped(2)
	p.Lines = []api.Line{{Id: 1, Kind: isHead, Owner: 1, Txg: 1, Guid: 1, Key: 2}}
	p.NextId, p.NextGuid = 2, 3
	var many []api.Change
	for n := range 12 {
		many = append(many, puts(1, n, 15)...)
	}
	p = synced(t, with(p, many...))
	for n := 12; ; n++ {
		left := 0
		for _, mark := range p.Store.Space {
			if mark == unused {
				left++
			}
		}
		if left == free {
			return p
		}
		p = synced(t, with(p, puts(1, n, min(15, left-free-1))...))
	}
}

// A disk has to have room for the sync; where it has none, no older label is taken.
func TestP191Room(t *testing.T) {
	for free := 4; free < 9; free++ {
		p := filledUp(t, free)
		wantOpen(t, fmt.Sprint(free, " free"), p.Store.Disk, api.OK)
		for many := 1; many < 4; many++ {
			var l []api.Change
			for i := range many {
				l = append(l, put(1, 0, i, 90+i))
			}
			q, e := log.Commit(with(p, l...), 1)
			if e != api.OK {
				t.Fatal(free, many, e)
			}
			want := api.ErrFull
			if many+5 <= free {
				want = api.OK
			}
			wantOpen(t, fmt.Sprint(free, " free, ", many, " in the log"), q.Store.Disk, want)
			wantCrash(t, fmt.Sprint(free, " free, ", many, " in the log"), q, nil, want)
		}
	}
}

// A sync is refused, too, where what the log gives up was given up already; then no older label is taken either.
func TestP191Given(t *testing.T) {
	p := base(t, 0)
	one := p.Lines[0]
	o, e := set.Object(p.Store, one.Root, 0)
	if e != api.OK {
		t.Fatal(e)
	}
	q := slowTwin(p)
	q.Lines[0].Dead = append(q.Lines[0].Dead, o.Data[3])
	slices.SortFunc(q.Lines[0].Dead, func(a, b api.Ptr) int { return a.At - b.At })
	q = kept(synced(t, q), p)
	wantOpen(t, "no log", q.Store.Disk, api.OK)
	q = committed(t, with(q, hole(1, 0, 3)), 1)
	if _, e := txg.Load(q.Store.Disk, plainLabels(q.Store.Disk)[1]); e != api.OK {
		t.Fatal("the older pool is not there", e)
	}
	wantOpen(t, "a log that gives it up", q.Store.Disk, api.ErrBad)
	wantCrash(t, "a log that gives it up", q, nil, api.ErrBad)
}

// The chapter's examples.
func TestExamples(t *testing.T) {
	p := formatted(t, 0)
	q := wantOpen(t, "Format(0)", p.Store.Disk, api.OK)
	if p.Gen != 1 || p.Store.Epoch != 1 || q.Gen != 2 || q.Store.Epoch != 3 {
		t.Errorf("Format(0): %d, %d; Open: %d, %d", p.Gen, p.Store.Epoch, q.Gen, q.Store.Epoch)
	}
	if p := formatted(t, 1); p.Store.Epoch != 2 {
		t.Errorf("Format(1): %d", p.Store.Epoch)
	}
	if _, e := mount.Format(2); e != api.ErrArg {
		t.Errorf("Format(2): %d", e)
	}
	wantOpen(t, "noughts", api.Disk{Blocks: slices.Repeat([][]byte{make([]byte, 256)}, 256)}, api.ErrDisk)
}
