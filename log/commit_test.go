package log_test

import (
	"bytes"
	"fmt"
	"math"
	"slices"
	"testing"

	"charterhouse/api"
	"charterhouse/log"
	"charterhouse/store"
	"charterhouse/txg"
)

// What a commit writes, byte by byte, where each number has a byte of its own.
func TestP181ByHand(t *testing.T) {
	p := with(base(),
		api.Change{Set: 255, Obj: 1, Index: 14, Laid: api.Ptr{At: 101, Birth: 0x0f0e0d, Iv: 0x13121110, Tag: 0x17161514, Sum: 0x1b1a1918}},
		api.Change{Set: 255, Obj: 1, Index: 15, Kind: 7, Links: 200, Size: 0x0e0d},
		api.Change{Set: 255, Obj: 15, Index: 3},
		api.Change{Set: 255, Obj: 15, Index: 15},
	)
	p.Logged = 5
	q, e := log.Commit(p, 255)
	if e != api.OK || q.Logged != 6 {
		t.Fatal(q.Logged, e)
	}
	want := slices.Concat(
		[]byte{76, 0x0c, 0x0b, 0x0a, 0, 5, 255, 4, 1},
		[]byte{1, 14, 101, 13, 14, 15, 16, 17, 18, 19, 20, 21, 22, 23, 24, 25, 26, 27},
		[]byte{1, 15, 7, 200, 0x0d, 0x0e, 0, 0, 0, 0, 0, 0, 0, 0, 0, 0, 0, 0},
		append([]byte{15, 3}, make([]byte, 16)...),
		append([]byte{15, 15}, make([]byte, 16)...),
	)
	sum := slowSum(want)
	want = append(want, byte(sum), byte(sum>>8), byte(sum>>16), byte(sum>>24))
	want = append(want, make([]byte, 171)...)
	if got := q.Store.Disk.Blocks[9]; !bytes.Equal(got, want) {
		t.Errorf("%v; want %v", got, want)
	}
	wantCommit(t, "by hand", p, 255, api.OK)
}

// A commit by which two blocks are written: only the second one is marked.
func TestP181TwoBlocks(t *testing.T) {
	p := with(base(), holes(9, 14)...)
	p.Logged = 2
	q := wantCommit(t, "14 changes", p, 9, api.OK)
	for i, head := range [][]byte{{76, 0x0c, 0x0b, 0x0a, 0, 2, 9, 12, 0, 0, 0}, {76, 0x0c, 0x0b, 0x0a, 0, 3, 9, 2, 1, 0, 12}} {
		if got := q.Store.Disk.Blocks[6+i]; !bytes.Equal(got[:11], head) {
			t.Errorf("block %d: %v", 6+i, got)
		}
	}
	if q.Logged != 4 || len(q.Store.Disk.Waits) > 0 {
		t.Errorf("%d are logged, %d writes wait", q.Logged, len(q.Store.Disk.Waits))
	}
	for at, b := range q.Store.Disk.Blocks {
		if was := seen(p.Store.Disk, at); at != 6 && at != 7 && !bytes.Equal(b, was) {
			t.Errorf("block %d is turned", at)
		}
	}
}

// All numbers of changes about the edges, with each number of blocks that are left.
func TestP181Log(t *testing.T) {
	for _, many := range []int{1, 2, 11, 12, 13, 24, 25, 36, 37, 48, 49, 60, 61, 72, 73, 84, 85, 95, 96, 97, 108, 192, 193} {
		for logged := range 9 {
			p := with(base(), holes(4, many)...)
			p.Logged = logged
			want := api.OK
			if (many+11)/12+logged > 8 {
				want = api.ErrLog
			}
			wantCommit(t, fmt.Sprint(many, " changes, ", logged, " logged"), p, 4, want)
		}
	}
}

// Another dataset's changes need no room.
func TestP181LogOfOne(t *testing.T) {
	p := with(base(), slices.Concat(holes(1, 200), holes(4, 12), holes(9, 200))...)
	p.Logged = 7
	wantCommit(t, "12 among 412", p, 4, api.OK)
	wantCommit(t, "the 200 ahead", p, 1, api.ErrLog)
	wantCommit(t, "the 200 behind", p, 9, api.ErrLog)
	var all []api.Change
	for i := range 256 {
		all = append(all, hole(9, i/16, i%16))
	}
	p = with(base(), all...)
	wantCommit(t, "all places of all objects", p, 9, api.ErrLog)
}

// What is sealed, and what is not: of each kind of change, by the key of the dataset alone.
func TestP181Seal(t *testing.T) {
	p := mixed()
	q := wantCommit(t, "dataset 1", p, 1, api.OK)
	if q.Store.Count != 301 || q.Logged != 2 {
		t.Errorf("Count %d, %d logged", q.Store.Count, q.Logged)
	}
	for i, want := range map[int]api.Ptr{0: {At: 20, Iv: 7<<16 + 300}, 5: {At: 21, Iv: 7<<16 + 301}} {
		l := q.Changes[i].Laid
		if l.At != want.At || l.Iv != want.Iv || l.Birth != 0x0a0b0d || q.Store.Space[l.At] != used {
			t.Errorf("change %d is laid at %v", i, l)
		}
		b, e := store.Open(q.Store, l, key(2))
		if e != api.OK || !bytes.Equal(b, p.Changes[i].Data) || !bytes.Equal(q.Changes[i].Data, b) {
			t.Errorf("change %d: %v, %d", i, b, e)
		}
	}
	for i, c := range q.Changes {
		if i != 0 && i != 5 && c.Laid != p.Changes[i].Laid {
			t.Errorf("change %d is laid, too", i)
		}
	}
	q = wantCommit(t, "and dataset 4", q, 4, api.OK)
	if b, e := store.Open(q.Store, q.Changes[7].Laid, key(5)); e != api.OK || !bytes.Equal(b, p.Changes[7].Data) {
		t.Errorf("by the key of dataset 4: %d", e)
	}
	if q.Changes[8].Laid.At != 91 {
		t.Errorf("what was laid already is laid at %v", q.Changes[8].Laid)
	}
	count := q.Store.Count
	q = wantCommit(t, "once more", q, 4, api.OK)
	q = wantCommit(t, "and dataset 255", q, 255, api.OK)
	q = wantCommit(t, "and dataset 1 once more", q, 1, api.OK)
	if q.Store.Count != count || q.Logged != 6 {
		t.Errorf("Count %d, it was %d; %d logged", q.Store.Count, count, q.Logged)
	}
}

// Only what has to be sealed asks for a key, and for that of the dataset.
func TestP181Key(t *testing.T) {
	both := put(1, 2, 3)
	both.Laid = laid(1, 2, 3, 75).Laid
	for _, x := range []struct {
		what string
		c    api.Change
		want api.Errno
	}{
		{"data", put(1, 2, 3), api.ErrKey},
		{"data that was laid", both, api.OK},
		{"laid", laid(1, 2, 3, 75), api.OK},
		{"a hole", hole(1, 2, 3), api.OK},
		{"a head", heading(1, 2, 3), api.OK},
		{"a head that goes", heading(1, 2, 0), api.OK},
	} {
		for _, key := range [][]byte{nil, {}} {
			p := with(base(), x.c, put(4, 0, 0))
			p.Loaded[2] = key
			wantCommit(t, x.what, p, 1, x.want)
			wantCommit(t, x.what+", and of another dataset", p, 4, api.OK)
			p = with(base(), put(1, 0, 0), x.c)
			p.Loaded[2] = key
			wantCommit(t, x.what+" behind data", p, 1, api.ErrKey)
			p = with(base(), x.c, heading(1, 15, 1), put(4, 0, 0))
			p.Loaded = make([][]byte, 8)
			wantCommit(t, x.what+" without any key", p, 1, x.want)
			p.Loaded[2] = make([]byte, 16)
			wantCommit(t, x.what+" with noughts as key", p, 1, api.OK)
			wantCommit(t, x.what+" with noughts as another key", p, 4, api.ErrKey)
		}
	}
}

// Just enough numbers to seal by, and too few.
func TestP181Iv(t *testing.T) {
	for _, many := range []int{1, 2, 13, 30} {
		p := with(base(), puts(1, many)...)
		p.Store.Count = mostCount - uint32(many)
		q := wantCommit(t, fmt.Sprint(many, " numbers"), p, 1, api.OK)
		if q.Store.Count != mostCount {
			t.Errorf("Count %d", q.Store.Count)
		}
		p.Store.Count++
		wantCommit(t, fmt.Sprint(many-1, " numbers"), p, 1, api.ErrIv)
		p.Store.Count = mostCount
		wantCommit(t, "no number", p, 1, api.ErrIv)
	}
	p := with(base(), holes(1, 3)...)
	p.Store.Count = mostCount
	wantCommit(t, "nothing to seal", p, 1, api.OK)
}

// free is p, of which only so many blocks are free.
func free(p api.Pool, many int) api.Pool {
	p = slowTwin(p)
	for at := range p.Store.Space {
		if p.Store.Space[at] != unused {
			continue
		}
		if many == 0 {
			p.Store.Space[at] = byte(1 + at%2)
			continue
		}
		many--
	}
	return p
}

// waiting is p, where so many writes wait.
func waiting(p api.Pool, many int) api.Pool {
	p = slowTwin(p)
	for len(p.Store.Disk.Waits) < many {
		p.Store.Disk.Waits = append(p.Store.Disk.Waits, api.Write{At: len(p.Store.Disk.Waits) % 256, Data: text(5)})
	}
	return p
}

func TestP181Full(t *testing.T) {
	for _, many := range []int{1, 2, 13} {
		p := with(base(), puts(1, many)...)
		wantCommit(t, fmt.Sprint(many, " free"), free(p, many), 1, api.OK)
		wantCommit(t, fmt.Sprint(many-1, " free"), free(p, many-1), 1, api.ErrFull)
		wantCommit(t, fmt.Sprint("room for ", many), waiting(p, mostWaits-many), 1, api.OK)
		wantCommit(t, fmt.Sprint("room for ", many-1), waiting(p, mostWaits-many+1), 1, api.ErrFull)
	}
	p := with(base(), holes(1, 96)...)
	wantCommit(t, "none is free, nothing to seal", free(p, 0), 1, api.OK)
	// The log is written behind a flush: it always has room to wait.
	wantCommit(t, "all writes wait, nothing to seal", waiting(p, mostWaits), 1, api.OK)
}

// What waits lasts behind a commit, and what goes to the log is written behind what waits for it.
func TestP181Waits(t *testing.T) {
	p := with(base(), puts(1, 14)...)
	for at := range 256 {
		p.Store.Disk.Waits = append(p.Store.Disk.Waits, api.Write{At: at, Data: text(at + 7)}, api.Write{At: at, Data: text(at + 9)})
	}
	q := wantCommit(t, "a write to each block", p, 1, api.OK)
	if !bytes.Equal(q.Store.Disk.Blocks[200], text(209)) || q.Store.Disk.Blocks[4][0] != 76 {
		t.Error("what waited does not last, or lasts in the log")
	}
}

// ids are such as no line of base has.
func ids() []int {
	return []int{0, 2, 5, 8, 10, 254, 256, 257, 260, -1, -4, 1<<32 + 1, math.MaxInt, math.MinInt}
}

// Errors, in the order in which they are looked for: each pool has the faults of all those behind, too.
func TestP181Order(t *testing.T) {
	p := with(base(), append(puts(1, 13), puts(4, 1)...)...)
	p.Logged, p.Gen = 7, mostTxg
	p.Loaded = make([][]byte, 8)
	p.Store.Count = mostCount
	p = free(p, 0)
	for _, set := range ids() {
		wantCommit(t, fmt.Sprint("line ", set), p, set, api.ErrNone)
	}
	wantCommit(t, "a snapshot", p, 3, api.ErrFrozen)
	wantCommit(t, "a full log", p, 1, api.ErrLog)
	p.Logged = 6
	wantCommit(t, "no sync is left", p, 1, api.ErrArg)
	p.Gen = mostTxg - 1
	wantCommit(t, "no key", p, 1, api.ErrKey)
	p.Loaded[2] = key(2)
	wantCommit(t, "no number", p, 1, api.ErrIv)
	p.Store.Count = mostCount - 13
	wantCommit(t, "no room", p, 1, api.ErrFull)
	p.Store.Space[30] = unused
	wantCommit(t, "room for one", p, 1, api.ErrFull)
	p.Store.Count = mostCount - 1
	wantCommit(t, "room for one, and one number", p, 1, api.ErrIv)
	p = with(base(), p.Changes...)
	p.Gen = mostTxg - 1
	if q := wantCommit(t, "the last sync but one", p, 1, api.OK); q.Changes[0].Laid.Birth != mostTxg {
		t.Errorf("laid at %v", q.Changes[0].Laid)
	}
}

// Without changes a commit is nothing, whatever else it would be refused for.
func TestP181Nothing(t *testing.T) {
	p := with(base(), puts(4, 13)...)
	p.Logged, p.Gen = 8, mostTxg
	p.Loaded = make([][]byte, 8)
	p.Store.Count = mostCount
	p = free(waiting(p, mostWaits), 0)
	for _, set := range []int{1, 9, 255} {
		if q := wantCommit(t, fmt.Sprint("dataset ", set), p, set, api.OK); !txg.Same(p, q) {
			t.Errorf("dataset %d: another pool", set)
		}
		for phase := 1; phase < 3; phase++ {
			if d, e := log.Half(p, set, phase); e != api.OK || !sameDisk(d, p.Store.Disk) {
				t.Errorf("dataset %d, phase %d: another disk, or error %d", set, phase, e)
			}
		}
	}
	p = txg.New()
	for _, set := range append(ids(), 1, 3) {
		if _, e := log.Commit(p, set); e != api.ErrNone {
			t.Errorf("a new pool, line %d: %d", set, e)
		}
	}
}

// A pool that was never synced has a log, too.
func TestP181Young(t *testing.T) {
	p := txg.New()
	p.Lines, p.NextId, p.NextGuid = []api.Line{{Id: 1, Kind: isHead, Owner: 1}}, 2, 1
	p.Loaded[0] = key(1)
	p.Changes = puts(1, 2)
	q := wantCommit(t, "a new pool", p, 1, api.OK)
	if q.Changes[1].Laid.At != 13 || q.Changes[1].Laid.Birth != 1 {
		t.Errorf("laid at %v", q.Changes[1].Laid)
	}
	q.Changes, q.Store.Space[12], q.Store.Space[13] = nil, unused, unused
	if q = wantReplay(t, "a new pool", q, api.OK); len(q.Changes) != 2 {
		t.Errorf("%d changes", len(q.Changes))
	}
}

// badPools are such as may not be.
func badPools() map[string]api.Pool {
	all := map[string]api.Pool{"none": {}}
	for what, turn := range map[string]func(p *api.Pool){
		"no disk":             func(p *api.Pool) { p.Store.Disk = api.Disk{} },
		"a short block":       func(p *api.Pool) { p.Store.Disk.Blocks[4] = text(1)[:5] },
		"no log":              func(p *api.Pool) { p.Store.Disk.Blocks = p.Store.Disk.Blocks[:4] },
		"no table":            func(p *api.Pool) { p.Store.Space = nil },
		"Epoch 0":             func(p *api.Pool) { p.Store.Epoch = 0 },
		"too great a Gen":     func(p *api.Pool) { p.Gen = mostTxg + 1 },
		"no Root":             func(p *api.Pool) { p.Root = none },
		"Meta is not used":    func(p *api.Pool) { p.Meta = []int{20} },
		"lines that fall":     func(p *api.Pool) { slices.Reverse(p.Lines) },
		"no loaded keys":      func(p *api.Pool) { p.Loaded = nil },
		"a short key":         func(p *api.Pool) { p.Loaded[2] = key(1)[:15] },
		"less than no log":    func(p *api.Pool) { p.Logged = -1 },
		"too long a log":      func(p *api.Pool) { p.Logged = 9 },
		"a very long log":     func(p *api.Pool) { p.Logged = math.MaxInt },
		"NextId is there":     func(p *api.Pool) { p.NextId = 255 },
		"NextId 0, no lines":  func(p *api.Pool) { p.Lines, p.Changes, p.NextId = nil, nil, 0 },
		"NextId below 0":      func(p *api.Pool) { p.Lines, p.Changes, p.NextId = nil, nil, -5 },
		"changes of none":     func(p *api.Pool) { p.Changes = []api.Change{hole(2, 0, 0)} },
		"changes that fall":   func(p *api.Pool) { p.Changes = []api.Change{hole(4, 0, 0), hole(1, 0, 0)} },
		"a change that's bad": func(p *api.Pool) { p.Changes = []api.Change{hole(1, 16, 0)} },
	} {
		p := base()
		turn(&p)
		all[what] = p
	}
	return all
}

func TestBadPools(t *testing.T) {
	for what, p := range badPools() {
		for _, set := range append(ids(), 1, 3, 4, 9) {
			if q, e := log.Commit(p, set); e != api.ErrBad || !isZero(q) {
				t.Errorf("%s: Commit of %d: %d", what, set, e)
			}
			for phase := range 4 {
				if d, e := log.Half(p, set, phase); e != api.ErrBad || len(d.Blocks)+len(d.Waits) > 0 {
					t.Errorf("%s: Half of %d, %d: %d", what, set, phase, e)
				}
			}
		}
		if q, e := log.Replay(p); e != api.ErrBad || !isZero(q) {
			t.Errorf("%s: Replay: %d", what, e)
		}
	}
}

// phases are none.
func phases() []int {
	return []int{0, -1, 3, 4, 257, 258, 1<<32 + 1, math.MaxInt, math.MinInt}
}

// Another phase is refused behind all for which the commit is.
func TestP182Phase(t *testing.T) {
	p := mixed()
	full := with(p, holes(1, 97)...)
	last := slowTwin(p)
	last.Gen = mostTxg
	locked := slowTwin(p)
	locked.Loaded = make([][]byte, 8)
	spent := slowTwin(p)
	spent.Store.Count = mostCount
	for _, phase := range phases() {
		for i, x := range []struct {
			p    api.Pool
			set  int
			want api.Errno
		}{
			{p, 1, api.ErrArg}, {p, 9, api.ErrArg}, {p, 2, api.ErrNone}, {p, 3, api.ErrFrozen}, {full, 1, api.ErrLog},
			{last, 1, api.ErrArg}, {locked, 1, api.ErrKey}, {spent, 1, api.ErrIv}, {free(p, 1), 1, api.ErrFull}, {api.Pool{}, 1, api.ErrBad},
		} {
			if d, e := log.Half(x.p, x.set, phase); e != x.want || len(d.Blocks)+len(d.Waits) > 0 {
				t.Errorf("pool %d, phase %d: %d; want %d", i, phase, e, x.want)
			}
		}
	}
}

// What waits ahead of each flush: first what was laid, then the log.
func TestP182Half(t *testing.T) {
	p := with(base(), puts(1, 14)...)
	first, e := log.Half(p, 1, 1)
	if e != api.OK || len(first.Waits) != 3+14 {
		t.Fatal(len(first.Waits), e)
	}
	second, e := log.Half(p, 1, 2)
	if e != api.OK || len(second.Waits) != 2 || second.Waits[0].At != 4 || second.Waits[1].At != 5 {
		t.Fatal(second.Waits, e)
	}
	if !sameDisk(flushed(first), api.Disk{Blocks: second.Blocks}) {
		t.Error("what was laid does not last ahead of the log")
	}
	if q := wantCommit(t, "14 changes", p, 1, api.OK); !sameDisk(flushed(second), q.Store.Disk) {
		t.Error("another disk lasts in the end")
	}
	p = with(base(), holes(1, 2)...)
	first, e = log.Half(p, 1, 1)
	if e != api.OK || !sameDisk(first, p.Store.Disk) {
		t.Errorf("nothing to seal: another disk, or error %d", e)
	}
}
