package mount_test

import (
	"bytes"
	"fmt"
	"math"
	"slices"
	"testing"

	"charterhouse/api"
	"charterhouse/log"
	"charterhouse/mount"
	"charterhouse/txg"
)

// New pools, byte by byte.
func TestP191Format(t *testing.T) {
	for side := range 2 {
		p := formatted(t, side)
		if d := differ(p, plainBare(side, 0)); d != "" {
			t.Errorf("side %d: %s", side, d)
		}
		if txg.Check(p) != api.OK {
			t.Errorf("side %d: it may not be", side)
		}
	}
	p := formatted(t, 0)
	if want := append([]byte{67, 1, 0, 0, 0, 1, 0, 0, 0, 14, 1}, make([]byte, 10)...); !bytes.HasPrefix(p.Store.Disk.Blocks[1], want) {
		t.Errorf("label % d", p.Store.Disk.Blocks[1][:30])
	}
	q := formatted(t, 1)
	if want := append([]byte{67, 1, 0, 0, 0, 2, 0, 0, 0, 14, 1}, make([]byte, 10)...); !bytes.HasPrefix(q.Store.Disk.Blocks[1], want) {
		t.Errorf("label of side 1 % d", q.Store.Disk.Blocks[1][:30])
	}
	if want := []byte{82, 1, 0, 2, 0, 0, 0, 0}; !bytes.HasPrefix(q.Store.Disk.Blocks[14], want) {
		t.Errorf("root of side 1 % d", q.Store.Disk.Blocks[14][:30])
	}
}

// sides are none.
func sides() []int {
	return []int{-1, -2, 2, 3, 4, 255, 256, 257, 65536, 65537, 1 << 32, 1<<32 + 1, -1 << 32, math.MaxInt, math.MinInt, math.MinInt + 1}
}

func TestP191Sides(t *testing.T) {
	for _, side := range sides() {
		if p, e := mount.Format(side); e != api.ErrArg || !isZero(p) {
			t.Errorf("Format(%d): %d", side, e)
		}
	}
}

// Formats of all other numbers than two are refused.
func TestP191AnySide(t *testing.T) {
	for side := -3000; side < 3000; side++ {
		if side == 0 || side == 1 {
			continue
		}
		if p, e := mount.Format(side); e != api.ErrArg || !isZero(p) {
			t.Errorf("Format(%d): %d", side, e)
		}
	}
	for bit := range 63 {
		for _, side := range []int{1<<bit + 1, 1<<bit | 1<<1, math.MinInt + 1<<bit} {
			if side == 1 || side == 0 {
				continue
			}
			if _, e := mount.Format(side); e != api.ErrArg {
				t.Errorf("Format(%d): %d", side, e)
			}
		}
	}
}

// Pools without lines that are opened again and again, byte by byte.
func TestP191Again(t *testing.T) {
	for side := range 2 {
		p := formatted(t, side)
		for n := 1; n < 10; n++ {
			p = wantOpen(t, fmt.Sprint("side ", side, ", opening ", n), p.Store.Disk, api.OK)
			if d := differ(p, plainBare(side, n)); d != "" {
				t.Errorf("side %d, opening %d: %s", side, n, d)
			}
		}
	}
}

// A pool with lines of all kinds has all of them again.
func TestP191Lines(t *testing.T) {
	for side := range 2 {
		p := base(t, side)
		q := wantOpen(t, fmt.Sprint("side ", side), p.Store.Disk, api.OK)
		if q.Gen != 5 || q.Store.Epoch != uint32(3+side) || fmt.Sprint(q.Lines) != fmt.Sprint(p.Lines) || q.NextId != 5 || q.NextGuid != uint32(9+side) {
			t.Errorf("side %d: Gen %d, Epoch %d, next %d %d, lines %v", side, q.Gen, q.Store.Epoch, q.NextId, q.NextGuid, q.Lines)
		}
		if fmt.Sprint(q.Keys) != fmt.Sprint(p.Keys) || !bytes.Equal(q.Keys[2], wrapped(2)) || !bytes.Equal(q.Keys[5], wrapped(5)) {
			t.Errorf("side %d: keys %v", side, q.Keys)
		}
		if has := contents(t, q); !sameThings(has, contents(t, p)) || has[1][0].data[0] != string(text(5)) || has[2][0].data[0] != string(text(1)) {
			t.Errorf("side %d: other objects", side)
		}
	}
}

// Changes that are in no log, and what was lost with them, are no more; those in the log are the lines' own, and the log is empty again.
func TestP191Log(t *testing.T) {
	p := base(t, 0)
	was := contents(t, p)
	p = with(p, put(1, 2, 0, 20), heading(1, 2, 1), put(3, 0, 0, 21), put(4, 3, 0, 22))
	q := wantOpen(t, "no log", p.Store.Disk, api.OK)
	if !sameThings(contents(t, q), was) {
		t.Error("what is in no log is there")
	}
	for n, set := range []int{1, 3, 4} {
		p = committed(t, p, set)
		now := contents(t, p)
		was[set] = now[set]
		q := wantOpen(t, fmt.Sprint(n, " logged"), p.Store.Disk, api.OK)
		if !sameThings(contents(t, q), was) {
			t.Errorf("%d commits: other objects", n)
		}
		if r, e := log.Replay(q); e != api.OK || len(r.Changes)+r.Logged > 0 {
			t.Errorf("%d commits: %d changes are in the log still, error %d", n, len(r.Changes), e)
		}
	}
	if now := contents(t, p); !sameThings(was, now) || now[1][2].data[0] != string(text(20)) || now[3][0].data[0] != string(text(21)) || now[4][3].data[0] != string(text(22)) {
		t.Error("all logged: other objects")
	}
}

// What waits is seen by an opening: a disk that did not crash is opened as it is seen.
func TestP191Waits(t *testing.T) {
	p := with(base(t, 0), put(1, 0, 0, 30))
	last := synced(t, p)
	for phase, want := range map[int]map[int]things{1: contents(t, with(p)), 2: contents(t, last)} {
		d, e := txg.Half(p, phase)
		if e != api.OK || len(d.Waits) == 0 {
			t.Fatal(phase, len(d.Waits), e)
		}
		q := wantOpen(t, fmt.Sprint("phase ", phase), d, api.OK)
		if q.Gen != uint32(4+phase) || !sameThings(contents(t, q), want) {
			t.Errorf("phase %d: Gen %d", phase, q.Gen)
		}
	}
}

// badDisks are none.
func badDisks(t *testing.T) map[string]api.Disk {
	all := map[string]api.Disk{"none": {}}
	for what, turn := range map[string]func(d *api.Disk){
		"a block less":        func(d *api.Disk) { d.Blocks = d.Blocks[:255] },
		"a block more":        func(d *api.Disk) { d.Blocks = append(d.Blocks, text(1)) },
		"a short label":       func(d *api.Disk) { d.Blocks[0] = d.Blocks[0][:255] },
		"a long last one":     func(d *api.Disk) { d.Blocks[255] = append(d.Blocks[255], 0) },
		"no block 100":        func(d *api.Disk) { d.Blocks[100] = nil },
		"a write to -1":       func(d *api.Disk) { d.Waits = []api.Write{{At: -1, Data: text(1)}} },
		"a write to 256":      func(d *api.Disk) { d.Waits = []api.Write{{At: 256, Data: text(1)}} },
		"a short write":       func(d *api.Disk) { d.Waits = []api.Write{{At: 200, Data: text(1)}, {At: 3, Data: text(1)[:255]}} },
		"a long write":        func(d *api.Disk) { d.Waits = []api.Write{{At: 3, Data: make([]byte, 257)}} },
		"too many that wait":  func(d *api.Disk) { d.Waits = slices.Repeat([]api.Write{{At: 200, Data: text(1)}}, 4097) },
		"only what waits":     func(d *api.Disk) { d.Blocks, d.Waits = nil, []api.Write{{At: 3, Data: text(1)}} },
		"no bytes of a write": func(d *api.Disk) { d.Waits = []api.Write{{At: 3}} },
	} {
		d := slowTwinDisk(base(t, 0).Store.Disk)
		turn(&d)
		all[what] = d
		// Without a label it is refused as what it is, too.
		d = slowTwinDisk(d)
		for slot := range min(4, len(d.Blocks)) {
			clear(d.Blocks[slot])
		}
		all[what+", no label"] = d
	}
	return all
}

func TestP191BadDisks(t *testing.T) {
	for what, d := range badDisks(t) {
		if p, e := mount.Open(d); e != api.ErrBad || !isZero(p) {
			t.Errorf("%s: %d", what, e)
		}
	}
}

// A disk without any pool: noughts, bytes that are no label's, and labels whose pool is not there.
func TestP191None(t *testing.T) {
	d := txg.New().Store.Disk
	wantOpen(t, "noughts", d, api.ErrDisk)
	for at := range d.Blocks {
		d.Blocks[at] = text(at)
	}
	wantOpen(t, "other bytes", d, api.ErrDisk)
	for slot := range 4 {
		l := api.Label{Gen: uint32(20 + slot), Epoch: 1, Root: api.Ptr{At: 50 + slot, Sum: slowSum(text(50 + slot))}}
		d.Blocks[slot] = slowLabel(l)
		wantOpen(t, fmt.Sprint(slot+1, " labels of no pool"), d, api.ErrDisk)
	}
	p := formatted(t, 0)
	bad := slowTwinDisk(p.Store.Disk)
	bad.Blocks[4] = slowLog(1, api.Change{Set: 1})
	wantOpen(t, "a log of a dataset that is not there", bad, api.OK)
	p = base(t, 1)
	for slot := range 4 {
		if label := p.Store.Disk.Blocks[slot]; int(slowNumber(label[1:5])) != int(p.Gen) {
			clear(label)
		}
	}
	wantOpen(t, "one label", p.Store.Disk, api.OK)
	p.Store.Disk.Blocks[4] = slowLog(p.Gen, api.Change{Set: 1, Laid: api.Ptr{At: p.Root.At, Birth: 5}})
	wantOpen(t, "one label, whose log is not replayed", p.Store.Disk, api.ErrDisk)
}

// ways are those in which the pool of a label of Gen g, of the disk that four tells, comes not to be there.
func ways() map[string]func(d api.Disk, g uint32) {
	labelOf := func(d api.Disk, g uint32) (l api.Label) {
		for _, l = range plainLabels(d) {
			if l.Gen == g {
				return l
			}
		}
		panic("no label")
	}
	// trunk is the block of the root of g.
	trunk := func(d api.Disk, g uint32) []byte { return d.Blocks[labelOf(d, g).Root.At] }
	// line is the block of its lines: dataset 1 is the first one.
	line := func(d api.Disk, g uint32) []byte { return d.Blocks[trunk(d, g)[16]] }
	return map[string]func(d api.Disk, g uint32){
		"label":  func(d api.Disk, g uint32) { d.Blocks[g%4][6] ^= 1 },
		"root":   func(d api.Disk, g uint32) { trunk(d, g)[255] ^= 128 },
		"lines":  func(d api.Disk, g uint32) { line(d, g)[0] ^= 2 },
		"keys":   func(d api.Disk, g uint32) { d.Blocks[trunk(d, g)[80]][50] ^= 4 },
		"row":    func(d api.Disk, g uint32) { d.Blocks[line(d, g)[12]][1] ^= 8 },
		"object": func(d api.Disk, g uint32) { d.Blocks[d.Blocks[line(d, g)[12]][0]][0] ^= 16 },
		"dead":   func(d api.Disk, g uint32) { d.Blocks[line(d, g)[28]][7] ^= 32 },
		"no root": func(d api.Disk, g uint32) {
			l := labelOf(d, g)
			trunk(d, g)[0] = 83
			l.Root.Sum = slowSum(trunk(d, g))
			d.Blocks[g%4] = slowLabel(l)
		},
	}
}

// unharming are ways in which bytes are turned that no pool that is opened has to read.
func unharming() map[string]func(d api.Disk, g uint32) {
	return map[string]func(d api.Disk, g uint32){
		"nothing":     func(d api.Disk, g uint32) {},
		"a free one":  func(d api.Disk, g uint32) { d.Blocks[255][0] ^= 1 },
		"another log": func(d api.Disk, g uint32) { copy(d.Blocks[4+7], slowLog(g-1, api.Change{Set: 1})) },
	}
}

// chosen are those of the Gens 5 to 8 that a number's bits tell.
func chosen(n int) (l []uint32) {
	for g := range uint32(4) {
		if n>>g&1 > 0 {
			l = append(l, g+5)
		}
	}
	return l
}

// Of four labels whose pools are there the first one counts; and whichever are not there, in whichever way, the first one of those that are. Each has its log, if it is its.
func TestP191First(t *testing.T) {
	for logged := uint32(4); logged <= 8; logged++ {
		d, has := four(t, logged)
		for what, turn := range ways() {
			for n := range 16 {
				what := fmt.Sprint(what, " of ", chosen(n), ", log of ", logged)
				broken, last := slowTwinDisk(d), uint32(0)
				for _, g := range chosen(15 - n) {
					last = g
				}
				for _, g := range chosen(n) {
					turn(broken, g)
				}
				if last == 0 {
					wantOpen(t, what, broken, api.ErrDisk)
					continue
				}
				p := wantOpen(t, what, broken, api.OK)
				if p.Gen != last+1 || p.Store.Epoch != 3 || !sameThings(contents(t, p), has[last]) {
					t.Errorf("%s: Gen %d, Epoch %d; want what %d had", what, p.Gen, p.Store.Epoch, last)
				}
			}
		}
		for what, turn := range unharming() {
			turn(d, 8)
			if p := wantOpen(t, what, d, api.OK); p.Gen != 9 || !sameThings(contents(t, p), has[8]) {
				t.Errorf("%s: Gen %d", what, p.Gen)
			}
		}
	}
}

// A label whose log may not be is passed by; the next one has another log.
func TestP191BadLog(t *testing.T) {
	for logged := uint32(5); logged <= 8; logged++ {
		d, has := four(t, logged)
		for _, l := range plainLabels(d) {
			if l.Gen != logged {
				continue
			}
			d.Blocks[4] = slowLog(logged, api.Change{Set: 1, Laid: api.Ptr{At: l.Root.At, Birth: logged + 1}})
		}
		if logged < 8 {
			p := wantOpen(t, fmt.Sprint("log of ", logged), d, api.OK)
			if p.Gen != 9 || !sameThings(contents(t, p), has[8]) {
				t.Errorf("log of %d, which is none of 8: Gen %d", logged, p.Gen)
			}
		}
		for g := logged + 1; g <= 8; g++ {
			ways()["root"](d, g)
		}
		if logged == 5 {
			wantOpen(t, "log of 5, the only one", d, api.ErrDisk)
			continue
		}
		p := wantOpen(t, fmt.Sprint("log of ", logged, ", the last one"), d, api.OK)
		if p.Gen != logged || !sameThings(contents(t, p), has[logged-1]) {
			t.Errorf("log of %d: Gen %d", logged, p.Gen)
		}
	}
}

// epochs is a disk whose last label has that Epoch, and whose label ahead of it another one.
func epochs(t *testing.T, ahead, last int) api.Pool {
	t.Helper()
	p := base(t, 0)
	p.Store.Epoch = uint32(ahead)
	q := kept(synced(t, p), p)
	q.Store.Epoch = uint32(last)
	return synced(t, q)
}

// The Epoch is two more, of the pool that is opened, not of any other label's; at the end there is none more, and no older label is taken instead.
func TestP191Epochs(t *testing.T) {
	for _, last := range []int{1, 2, 255, 256, 32767, 65532, 65533} {
		for _, ahead := range []int{1, 65532, 65533, 65534, 65535} {
			p := wantOpen(t, fmt.Sprint("Epochs ", ahead, ", ", last), epochs(t, ahead, last).Store.Disk, api.OK)
			if p.Store.Epoch != uint32(last+2) {
				t.Errorf("Epochs %d, %d: %d", ahead, last, p.Store.Epoch)
			}
		}
	}
	for _, last := range []int{65534, 65535} {
		p := epochs(t, 1, last)
		wantOpen(t, fmt.Sprint("Epoch ", last), p.Store.Disk, api.ErrFull)
		wantCrash(t, fmt.Sprint("Epoch ", last), p, nil, api.ErrFull)
		d := p.Store.Disk
		ways()["root"](d, p.Gen)
		if p := wantOpen(t, fmt.Sprint("Epoch 1, behind ", last, ", which is not there"), d, api.OK); p.Store.Epoch != 3 {
			t.Errorf("Epoch %d", p.Store.Epoch)
		}
	}
}

// The number of the sync has an end, too; of no older label.
func TestP191Gens(t *testing.T) {
	p := base(t, 0)
	p.Gen = mostTxg - 2
	p = kept(synced(t, p), p)
	if q := wantOpen(t, "the last but one", p.Store.Disk, api.OK); q.Gen != mostTxg {
		t.Errorf("Gen %d", q.Gen)
	}
	last := synced(t, p)
	wantOpen(t, "the last one", last.Store.Disk, api.ErrFull)
	wantCrash(t, "the last one", last, nil, api.ErrFull)
	ways()["root"](last.Store.Disk, mostTxg)
	wantOpen(t, "the last one is not there", last.Store.Disk, api.OK)
}
