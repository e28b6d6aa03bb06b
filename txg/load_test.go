package txg_test

import (
	"bytes"
	"fmt"
	"math"
	"slices"
	"testing"

	"charterhouse/api"
	"charterhouse/txg"
)

// shelved is a pool that was put by hand: lines with objects, and dead lists of several rows.
func shelved(x *shelf) api.Pool {
	p := api.Pool{NextId: 12, NextGuid: 100, Keys: make([][]byte, 8)}
	p.Keys[0], p.Keys[3] = wrapped(1), wrapped(2)
	objects := map[int]api.Ptr{0: x.object(1, 0, 14), 7: x.object(2), 15: x.object(3, 5)}
	p.Lines = []api.Line{
		{Id: 1, Kind: isHead, Owner: 1, Prev: 3, Txg: 9, Guid: 5, Root: x.root(objects), Dead: every(17)},
		{Id: 3, Kind: isSnap, Owner: 1, Txg: 4, Guid: 6, Root: x.root(map[int]api.Ptr{0: objects[0]})},
		{Id: 4, Kind: isHead, Owner: 4, Txg: 1, Guid: 7, Key: 3, Dead: []api.Ptr{{At: 240, Birth: 3, Iv: 8, Tag: 9, Sum: 7}}},
		{Id: 7, Kind: isSnap, Owner: 4, Txg: 300, Guid: 8, Key: 3, Root: x.root(nil)},
		{Id: 9, Kind: isHead, Owner: 9, Txg: mostTxg, Guid: 99, Key: 7},
		{Id: 11, Kind: isHead, Owner: 11, Prev: 3, Txg: 5, Guid: 0, Root: x.root(map[int]api.Ptr{3: x.object(4, 1, 2, 3)}), Dead: every(3)},
	}
	return p
}

// onShelf are the pages of that pool, not yet put.
func onShelf() (*pages, api.Pool) {
	x := newShelf()
	p := shelved(x)
	return pagesOf(x, p), p
}

// What was put by hand, in blocks that do not rise, is read back.
func TestP173Load(t *testing.T) {
	y, want := onShelf()
	d, l := y.laid()
	p := wantLoad(t, "by hand", d, l, api.OK)
	if !slices.IsSorted(p.Meta) || len(p.Meta) != 3+2+2+2+1+1 {
		t.Errorf("Meta: %v", p.Meta)
	}
	if p.Gen != 300 || p.Store.Epoch != 7 || p.Store.Count != 0 || p.Root != l.Root || p.Logged != 0 || len(p.Changes) > 0 {
		t.Errorf("Gen %d, Epoch %d, Count %d, Root %v", p.Gen, p.Store.Epoch, p.Store.Count, p.Root)
	}
	if p.NextId != 12 || p.NextGuid != 100 || fmt.Sprint(p.Lines) != fmt.Sprint(want.Lines) || fmt.Sprint(p.Keys) != fmt.Sprint(want.Keys) || len(p.Loaded) != 8 {
		t.Errorf("%v, %v, %v, NextId %d, NextGuid %d", p.Lines, p.Keys, p.Loaded, p.NextId, p.NextGuid)
	}
	for i := range 8 {
		if len(p.Loaded[i]) > 0 {
			t.Errorf("key %d is loaded", i)
		}
	}
	// The shelf's blocks that nobody has are free, those of Dead are used, whatever stands there.
	if count(p, later) > 0 || p.Store.Space[240] != used || p.Store.Space[12] != used || p.Store.Space[254] != unused {
		t.Errorf("the table: %v", p.Store.Space)
	}
}

// What waits is read as it is seen, and waits still.
func TestP173LoadWaits(t *testing.T) {
	y, _ := onShelf()
	d, l := y.laid()
	want := wantLoad(t, "nothing waits", d, l, api.OK)
	for at := range 256 {
		d.Waits = append(d.Waits, api.Write{At: at, Data: d.Blocks[at]})
		d.Blocks[at] = text(3)
	}
	p := wantLoad(t, "all waits", d, l, api.OK)
	want.Store.Disk = d
	if s := differ(p, want); s != "" {
		t.Error(s)
	}
	d.Waits = append(d.Waits, api.Write{At: l.Root.At, Data: text(4)})
	wantLoad(t, "another root waits", d, l, api.ErrSum)
}

// Each number of lines, with as many blocks as it needs.
func TestP173LoadLines(t *testing.T) {
	for many := range 17 {
		x := newShelf()
		p := api.Pool{Lines: heads(many), NextId: many + 1, NextGuid: 1, Keys: make([][]byte, 8)}
		y := pagesOf(x, p)
		d, l := y.laid()
		q := wantLoad(t, fmt.Sprint(many, " lines"), d, l, api.OK)
		if len(q.Lines) != many || len(q.Meta) != max(1, (many+4)/5)+2 {
			t.Errorf("%d lines: %d, Meta %v", many, len(q.Lines), q.Meta)
		}
		// One block more, or less, than they need.
		d, l = pagesOf(newShelf(), p).turned(func(y *pages) { y.lines = append(y.lines, make([]byte, 256)) }).laid()
		if len(y.lines) < 4 {
			wantLoad(t, fmt.Sprint(many, " lines, one block more"), d, l, api.ErrBad)
		}
		d, l = pagesOf(newShelf(), p).turned(func(y *pages) { y.lines = y.lines[1:] }).laid()
		wantLoad(t, fmt.Sprint(many, " lines, one block less"), d, l, api.ErrBad)
		// One line more, or less, than the root's block tells.
		for _, told := range []int{many - 1, many + 1} {
			d, l = pagesOf(newShelf(), p).turned(func(y *pages) {
				y.root = func(lines []api.Ptr, keys api.Ptr) []byte { return slowRoot(99, 99, told, lines, keys) }
			}).laid()
			wantLoad(t, fmt.Sprint(many, " lines, told ", told), d, l, api.ErrBad)
		}
	}
}

// turned is y behind a turn.
func (y *pages) turned(by func(y *pages)) *pages {
	by(y)
	return y
}

func TestP173LoadWrong(t *testing.T) {
	y, _ := onShelf()
	d, l := y.laid()
	for i, of := range []func(l *api.Label){
		func(l *api.Label) { *l = api.Label{} },
		func(l *api.Label) { l.Gen = 0 },
		func(l *api.Label) { l.Gen = 1 << 24 },
		func(l *api.Label) { l.Gen = mostNumber },
		func(l *api.Label) { l.Epoch = 0 },
		func(l *api.Label) { l.Epoch = 65536 },
		func(l *api.Label) { l.Epoch = mostNumber },
		func(l *api.Label) { l.Root = none },
		func(l *api.Label) { l.Root.At = 11 },
		func(l *api.Label) { l.Root.At = 256 + l.Root.At },
		func(l *api.Label) { l.Root.At = math.MinInt },
		func(l *api.Label) { l.Root.Birth = 0 },
		func(l *api.Label) { l.Root.Birth = 1 << 24 },
		func(l *api.Label) { l.Root = api.Ptr{Sum: 1} },
	} {
		wrong := l
		of(&wrong)
		wantLoad(t, fmt.Sprint("label ", i), d, wrong, api.ErrBad)
		// It is asked for ahead of what stands there.
		wantLoad(t, fmt.Sprint("label ", i, ", New's disk"), txg.New().Store.Disk, wrong, api.ErrBad)
	}
	for i, of := range []func(l *api.Label){
		func(l *api.Label) { l.Gen = 1 },
		func(l *api.Label) { l.Gen = mostTxg },
		func(l *api.Label) { l.Epoch = 1 },
		func(l *api.Label) { l.Epoch = mostEpoch },
		func(l *api.Label) { l.Root.Birth = mostTxg },
		func(l *api.Label) { l.Root.Iv, l.Root.Tag = mostNumber, 3 },
	} {
		right := l
		of(&right)
		wantLoad(t, fmt.Sprint("right label ", i), d, right, api.OK)
	}
	for i, of := range []func(d *api.Disk){
		func(d *api.Disk) { *d = api.Disk{} },
		func(d *api.Disk) { d.Blocks = d.Blocks[:255] },
		func(d *api.Disk) { d.Blocks = append(d.Blocks, text(1)) },
		func(d *api.Disk) { d.Blocks[255] = nil },
		func(d *api.Disk) { d.Blocks[0] = append(text(0), 1) },
		func(d *api.Disk) { d.Waits = []api.Write{{At: -1, Data: text(1)}} },
		func(d *api.Disk) { d.Waits = []api.Write{{At: 5, Data: text(1)[:1]}} },
		func(d *api.Disk) { d.Waits = slices.Repeat([]api.Write{{At: 5, Data: text(1)}}, 4097) },
	} {
		wrong := slowTwinDisk(d)
		of(&wrong)
		wantLoad(t, fmt.Sprint("disk ", i), wrong, l, api.ErrBad)
		wantLoad(t, fmt.Sprint("disk ", i, ", no label"), wrong, api.Label{}, api.ErrBad)
	}
	full := slowTwinDisk(d)
	full.Waits = slices.Repeat([]api.Write{{At: 5, Data: text(1)}}, 4096)
	wantLoad(t, "as many writes wait as may", full, l, api.OK)
	wantLoad(t, "New's disk", txg.New().Store.Disk, l, api.ErrSum)
}

// Each byte of each block that is read; no byte of the others.
func TestP173LoadTurned(t *testing.T) {
	y, _ := onShelf()
	d, l := y.laid()
	p := wantLoad(t, "by hand", d, l, api.OK)
	x := &plain{p: p}
	read := map[int]bool{}
	for _, at := range p.Meta {
		read[at] = true
	}
	for _, line := range p.Lines {
		if line.Root == none {
			continue
		}
		read[line.Root.At] = true
		for _, p := range x.ptrs(line.Root) {
			read[p.At] = true
		}
	}
	delete(read, 0) // what none leads to
	for at := range 256 {
		for _, byt := range []int{0, 15, 16, 100, 240, 255} {
			want := api.OK
			if read[at] {
				want = api.ErrSum
			}
			d.Blocks[at][byt] ^= 32
			wantLoad(t, fmt.Sprint("byte ", byt, " of block ", at), d, l, want)
			d.Blocks[at][byt] ^= 32
		}
	}
	for at := range read {
		for byt := range 256 {
			d.Blocks[at][byt] ^= 1
			if _, e := txg.Load(d, l); e != api.ErrSum {
				t.Errorf("byte %d of block %d: %d", byt, at, e)
			}
			d.Blocks[at][byt] ^= 1
		}
	}
	for bit := range 32 {
		other := l
		other.Root.Sum ^= 1 << bit
		wantLoad(t, fmt.Sprint("another sum, by bit ", bit), d, other, api.ErrSum)
	}
}

// No byte of the pool's own blocks can be another one, though all sums above it are right, but those that tell something; and those are read.
func TestP173LoadBytes(t *testing.T) {
	errors := map[api.Errno]int{}
	try := func(what string, of func(y *pages)) {
		t.Helper()
		y, _ := onShelf()
		of(y)
		d, l := y.laid()
		_, e := plainLoad(d, l)
		errors[e]++
		wantLoad(t, what, d, l, e)
	}
	for byt := range 256 {
		for _, by := range []byte{1, 128} {
			for i := range 2 {
				try(fmt.Sprint("lines ", i, ", byte ", byt), func(y *pages) { y.lines[i][byt] ^= by })
			}
			try(fmt.Sprint("keys, byte ", byt), func(y *pages) { y.keys[byt] ^= by })
			try(fmt.Sprint("root, byte ", byt), func(y *pages) {
				was := y.root
				y.root = func(lines []api.Ptr, keys api.Ptr) []byte {
					b := was(lines, keys)
					b[byt] ^= by
					return b
				}
			})
		}
	}
	for _, e := range []api.Errno{api.OK, api.ErrBad, api.ErrSum} {
		if errors[e] < 50 {
			t.Errorf("%d loads: error %d", errors[e], e)
		}
	}
}

// What may not stand in the root's block.
func TestP173LoadRoot(t *testing.T) {
	for what, of := range map[string]func(b []byte, spare api.Ptr){
		"another first byte":       func(b []byte, _ api.Ptr) { b[0] = 83 },
		"a label's first byte":     func(b []byte, _ api.Ptr) { b[0] = 67 },
		"17 lines":                 func(b []byte, _ api.Ptr) { b[7] = 17 },
		"255 lines":                func(b []byte, _ api.Ptr) { b[7] = 255 },
		"11 lines in two blocks":   func(b []byte, _ api.Ptr) { b[7] = 11 },
		"5 lines in two blocks":    func(b []byte, _ api.Ptr) { b[7] = 5 },
		"no lines in two blocks":   func(b []byte, _ api.Ptr) { b[7] = 0 },
		"no first block":           func(b []byte, _ api.Ptr) { clear(b[16:32]) },
		"no second block":          func(b []byte, _ api.Ptr) { clear(b[32:48]) },
		"a third block":            func(b []byte, p api.Ptr) { copy(b[48:], slowPtr(p)) },
		"a fourth block":           func(b []byte, p api.Ptr) { copy(b[64:], slowPtr(p)) },
		"no keys":                  func(b []byte, _ api.Ptr) { clear(b[80:96]) },
		"more than keys":           func(b []byte, p api.Ptr) { copy(b[96:], slowPtr(p)) },
		"a wrong first block":      func(b []byte, _ api.Ptr) { b[16] = 11 },
		"keys without birth":       func(b []byte, _ api.Ptr) { clear(b[81:84]) },
		"a nought that is none":    func(b []byte, _ api.Ptr) { b[8] = 1 },
		"the last nought ahead":    func(b []byte, _ api.Ptr) { b[15] = 1 },
		"the last nought of all":   func(b []byte, _ api.Ptr) { b[255] = 1 },
		"NextId 257":               func(b []byte, _ api.Ptr) { b[1], b[2] = 1, 1 },
		"NextId 65535":             func(b []byte, _ api.Ptr) { b[1], b[2] = 255, 255 },
		"NextId is the last one's": func(b []byte, _ api.Ptr) { b[1] = 11 },
		"NextId 0":                 func(b []byte, _ api.Ptr) { b[1] = 0 },
		"NextGuid is one's":        func(b []byte, _ api.Ptr) { b[3] = 99 },
		"all noughts":              func(b []byte, _ api.Ptr) { clear(b) },
		"a text":                   func(b []byte, _ api.Ptr) { copy(b, text(82)) },
	} {
		y, _ := onShelf()
		spare, was := y.x.put(make([]byte, 256)), y.root
		y.root = func(lines []api.Ptr, keys api.Ptr) []byte {
			b := was(lines, keys)
			of(b, spare)
			return b
		}
		d, l := y.laid()
		wantLoad(t, what, d, l, api.ErrBad)
	}
}

// That a root's block tells more lines than there may be makes it none, whatever it leads to.
func TestP173LoadTooMany(t *testing.T) {
	for many := 17; many <= 21; many++ {
		y := pagesOf(newShelf(), api.Pool{Lines: heads(min(many, 20)), Keys: make([][]byte, 8), NextId: 30, NextGuid: 1})
		was := y.root
		y.root = func(lines []api.Ptr, keys api.Ptr) []byte {
			b := was(lines, turnedPtr(keys))
			b[7] = byte(many)
			return b
		}
		d, l := y.laid()
		wantLoad(t, fmt.Sprint(many, " lines"), d, l, api.ErrBad)
	}
}

// What may not stand in the lines' blocks, or the keys' one.
func TestP173LoadPages(t *testing.T) {
	for what, of := range map[string]func(y *pages){
		"a line's noughts":              func(y *pages) { y.lines[0][44] = 1 },
		"the last line's noughts":       func(y *pages) { y.lines[0][239] = 1 },
		"noughts behind five lines":     func(y *pages) { y.lines[0][240] = 1 },
		"the block's last nought":       func(y *pages) { y.lines[0][255] = 1 },
		"a line more":                   func(y *pages) { copy(y.lines[1][48:], slowLine(api.Line{Id: 99, Kind: isHead, Owner: 99}, none)) },
		"a byte behind the lines":       func(y *pages) { y.lines[1][48] = 1 },
		"a byte far behind the lines":   func(y *pages) { y.lines[1][200] = 1 },
		"a wrong root":                  func(y *pages) { y.lines[0][12] = 11 },
		"a root without birth":          func(y *pages) { clear(y.lines[0][13:16]) },
		"a wrong pointer to a list":     func(y *pages) { y.lines[0][28] = 3 },
		"a pointer to a list of none":   func(y *pages) { y.lines[0][28] = 0 },
		"a line of noughts":             func(y *pages) { clear(y.lines[1]) },
		"Id 0":                          func(y *pages) { y.lines[0][0] = 0 },
		"an Id twice":                   func(y *pages) { y.lines[0][48] = 1 },
		"Ids that fall":                 func(y *pages) { y.lines[0][0] = 200 },
		"Kind 0":                        func(y *pages) { y.lines[0][1] = 0 },
		"Kind 3":                        func(y *pages) { y.lines[0][1] = 3 },
		"another Kind":                  func(y *pages) { y.lines[0][1] = isSnap },
		"another Owner":                 func(y *pages) { y.lines[0][2] = 4 },
		"a Prev that is none":           func(y *pages) { y.lines[0][3] = 5 },
		"a Prev with another key":       func(y *pages) { y.lines[0][3] = 7 },
		"too low a Txg":                 func(y *pages) { clear(y.lines[0][4:7]) },
		"too great a Guid":              func(y *pages) { y.lines[0][7] = 100 },
		"key 8":                         func(y *pages) { y.lines[0][4*48+11] = 8 },
		"another key than its Prev":     func(y *pages) { y.lines[0][11] = 1 },
		"a byte behind the keys":        func(y *pages) { y.keys[192] = 1 },
		"the last byte behind the keys": func(y *pages) { y.keys[255] = 1 },
	} {
		y, _ := onShelf()
		of(y)
		d, l := y.laid()
		wantLoad(t, what, d, l, api.ErrBad)
	}
	for what, of := range map[string]func(y *pages){
		"another key":       func(y *pages) { y.keys[191] ^= 1 },
		"no keys":           func(y *pages) { clear(y.keys[:192]) },
		"a key of one byte": func(y *pages) { y.keys[24] = 1 },
		"all keys":          func(y *pages) { copy(y.keys, bytes.Repeat([]byte{5}, 192)) },
		"another Guid":      func(y *pages) { y.lines[0][7] = 98 },
		"the greatest Txg":  func(y *pages) { copy(y.lines[0][4:7], []byte{255, 255, 255}) },
	} {
		y, _ := onShelf()
		of(y)
		d, l := y.laid()
		wantLoad(t, what, d, l, api.OK)
	}
}

// No two blocks of the pool's own are one.
func TestP173LoadOneBlockTwice(t *testing.T) {
	y, _ := onShelf()
	copy(y.lines[1][28:44], y.lines[0][28:44])
	d, l := y.laid()
	wantLoad(t, "one dead list of two lines", d, l, api.ErrBad)
	y, _ = onShelf()
	was := y.root
	y.root = func(lines []api.Ptr, keys api.Ptr) []byte { return was([]api.Ptr{lines[0], lines[0]}, keys) }
	d, l = y.laid()
	wantLoad(t, "one block of lines twice", d, l, api.ErrBad)
	y = pagesOf(newShelf(), api.Pool{Keys: make([][]byte, 8), NextId: 1, NextGuid: 1})
	was = y.root
	y.root = func(lines []api.Ptr, keys api.Ptr) []byte { return was(lines, lines[0]) }
	d, l = y.laid()
	wantLoad(t, "noughts as lines and as keys", d, l, api.ErrBad)
}

// listed is a shelf whose line 4 has another dead list, by its pointer.
func listed(of func(x *shelf) api.Ptr) *pages {
	y, _ := onShelf()
	copy(y.lines[0][2*48+28:], slowPtr(of(y.x)))
	return y
}

// rooted is one whose line 4 has another root.
func (y *pages) rooted(of func(x *shelf) api.Ptr) *pages {
	copy(y.lines[0][2*48+12:], slowPtr(of(y.x)))
	return y
}

func turnedPtr(p api.Ptr) api.Ptr {
	p.Sum++
	return p
}

// The errors of what is below the lines: dead lists, and what a walk reads.
func TestP173LoadBelow(t *testing.T) {
	for what, x := range map[string]struct {
		of   func(x *shelf) api.Ptr
		want api.Errno
	}{
		"a list":             {func(x *shelf) api.Ptr { return x.dead(every(33)) }, api.OK},
		"the longest list":   {func(x *shelf) api.Ptr { return x.dead(every(240)) }, api.OK},
		"no list":            {func(x *shelf) api.Ptr { return none }, api.OK},
		"a turned list":      {func(x *shelf) api.Ptr { return turnedPtr(x.dead(every(3))) }, api.ErrSum},
		"a turned row":       {func(x *shelf) api.Ptr { return x.put(slowRow([]api.Ptr{turnedPtr(x.put(slowRow(every(3))))})) }, api.ErrSum},
		"no row":             {func(x *shelf) api.Ptr { return x.put(text(1)) }, api.ErrBad},
		"a list of none":     {func(x *shelf) api.Ptr { return x.put(make([]byte, 256)) }, api.ErrBad},
		"a list that falls":  {func(x *shelf) api.Ptr { return x.dead([]api.Ptr{{At: 30, Birth: 1}, {At: 20, Birth: 1}}) }, api.ErrBad},
		"a list with a hole": {func(x *shelf) api.Ptr { return x.dead([]api.Ptr{{At: 30, Birth: 1}, none, {At: 40, Birth: 1}}) }, api.ErrBad},
		"too long a list":    {func(x *shelf) api.Ptr { return x.dead(every(241)) }, api.ErrBad},
		"a row led astray":   {func(x *shelf) api.Ptr { return x.put(slowRow([]api.Ptr{{At: 200, Birth: 1, Sum: 1}})) }, api.ErrSum},
	} {
		d, l := listed(x.of).laid()
		wantLoad(t, what, d, l, x.want)
	}
	wrongObject := func(x *shelf) api.Ptr { return x.put(text(3)) }
	for what, x := range map[string]struct {
		of   func(x *shelf) api.Ptr
		want api.Errno
	}{
		"a root":          {func(x *shelf) api.Ptr { return x.root(map[int]api.Ptr{9: x.object(5, 3, 4)}) }, api.OK},
		"no root":         {func(x *shelf) api.Ptr { return none }, api.OK},
		"a turned root":   {func(x *shelf) api.Ptr { return turnedPtr(x.root(nil)) }, api.ErrSum},
		"no root's block": {func(x *shelf) api.Ptr { return x.put(text(1)) }, api.ErrBad},
		"a turned object": {func(x *shelf) api.Ptr { return x.root(map[int]api.Ptr{9: turnedPtr(x.object(5))}) }, api.ErrSum},
		"no object":       {func(x *shelf) api.Ptr { return x.root(map[int]api.Ptr{9: wrongObject(x)}) }, api.ErrBad},
		"no, then turned": {func(x *shelf) api.Ptr { return x.root(map[int]api.Ptr{8: wrongObject(x), 9: turnedPtr(x.object(5))}) }, api.ErrBad},
		"turned, then no": {func(x *shelf) api.Ptr { return x.root(map[int]api.Ptr{9: wrongObject(x), 8: turnedPtr(x.object(5))}) }, api.ErrSum},
		"data that is not": {func(x *shelf) api.Ptr {
			o := api.Object{Kind: 1, Data: append(make([]api.Ptr, 14), api.Ptr{At: 77, Birth: 1})}
			return x.root(map[int]api.Ptr{1: x.put(slowObject(o))})
		}, api.OK},
	} {
		d, l := listed(func(x *shelf) api.Ptr { return none }).rooted(x.of).laid()
		wantLoad(t, what, d, l, x.want)
	}
}

// Of several errors the first one is told, as it is read.
func TestP173LoadOrder(t *testing.T) {
	turnList := func(x *shelf) api.Ptr { return turnedPtr(x.dead(every(3))) }
	badList := func(x *shelf) api.Ptr { return x.put(text(1)) }
	turnRoot := func(x *shelf) api.Ptr { return turnedPtr(x.root(nil)) }
	badRoot := func(x *shelf) api.Ptr { return x.put(text(2)) }
	for what, x := range map[string]struct {
		list, root func(x *shelf) api.Ptr
		want       api.Errno
	}{
		"a turned list, no root's block":  {turnList, badRoot, api.ErrSum},
		"no list, a turned root":          {badList, turnRoot, api.ErrBad},
		"a turned list, a turned root":    {turnList, turnRoot, api.ErrSum},
		"no list, and no root's block":    {badList, badRoot, api.ErrBad},
		"a list, a turned root, no lines": {turnList, badRoot, api.ErrSum},
	} {
		d, l := listed(x.list).rooted(x.root).laid()
		wantLoad(t, what, d, l, x.want)
	}
	// The first line's root comes ahead of the second line's list.
	first := func(y *pages, root, list api.Ptr) (api.Disk, api.Label) {
		copy(y.lines[0][12:], slowPtr(root))
		copy(y.lines[0][48+28:], slowPtr(list))
		return y.laid()
	}
	y, _ := onShelf()
	d, l := first(y, badRoot(y.x), turnList(y.x))
	wantLoad(t, "no first root, a second list turned", d, l, api.ErrBad)
	y, _ = onShelf()
	d, l = first(y, turnRoot(y.x), badList(y.x))
	wantLoad(t, "a first root turned, no second list", d, l, api.ErrSum)
	// That the pool may not be is told behind all that is read.
	y = listed(turnList)
	y.lines[0][1] = 9
	d, l = y.laid()
	wantLoad(t, "Kind 9, a list turned", d, l, api.ErrSum)
	// That a block is none of lines, or of keys, is told behind all sums of these, and ahead of what is below.
	for what, of := range map[string]func(y *pages){
		"lines":  func(y *pages) { y.lines[0][240] = 1 },
		"lines,": func(y *pages) { y.lines[1][240] = 1 },
		"keys":   func(y *pages) { y.keys[255] = 1 },
	} {
		d, l = listed(turnList).turned(of).laid()
		wantLoad(t, "no "+what+", a list turned", d, l, api.ErrBad)
		for i := range 3 {
			y := listed(turnList).turned(of)
			was := y.root
			y.root = func(lines []api.Ptr, keys api.Ptr) []byte {
				all := append(slices.Clone(lines), keys)
				all[i].Sum++
				return was(all[:2], all[2])
			}
			d, l = y.laid()
			wantLoad(t, fmt.Sprint("no ", what, ", block ", i, " turned"), d, l, api.ErrSum)
		}
	}
	// That the root's block is none is told ahead of the sums of what it leads to.
	y, _ = onShelf()
	was := y.root
	y.root = func(lines []api.Ptr, keys api.Ptr) []byte {
		b := was([]api.Ptr{turnedPtr(lines[0]), lines[1]}, turnedPtr(keys))
		b[255] = 1
		return b
	}
	d, l = y.laid()
	wantLoad(t, "no root's block, all turned", d, l, api.ErrBad)
}

// Without lines any NextId from 1 to 256 is read, and another one is refused.
func TestP173LoadNextId(t *testing.T) {
	for _, n := range []int{0, 1, 255, 256, 257, 65535} {
		want := api.OK
		if n < 1 || n > 256 {
			want = api.ErrBad
		}
		d, l := pagesOf(newShelf(), api.Pool{Keys: make([][]byte, 8), NextId: n}).laid()
		wantLoad(t, fmt.Sprint("NextId ", n), d, l, want)
	}
}
