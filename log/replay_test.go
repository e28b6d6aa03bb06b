package log_test

import (
	"bytes"
	"fmt"
	"slices"
	"testing"

	"charterhouse/api"
)

const gen = 0x0a0b0c // of base

// some are changes of one commit: of each kind, and at the edges of what each may be.
func some(set int) []api.Change {
	return []api.Change{
		laid(set, 0, 0, 20), hole(set, 0, 14), heading(set, 0, 0),
		{Set: set, Obj: 1, Index: 7, Laid: api.Ptr{At: 255, Birth: mostTxg, Iv: 1<<32 - 1, Tag: 1<<32 - 1, Sum: 1<<32 - 1}},
		{Set: set, Obj: 1, Index: head, Kind: 7, Links: 255, Size: 3840},
		{Set: set, Obj: 15, Index: 14, Laid: api.Ptr{At: 30, Birth: 1}},
		{Set: set, Obj: 15, Index: head, Kind: 1},
	}
}

// A log by hand, byte by byte.
func TestP183ByHand(t *testing.T) {
	entries := slices.Concat(
		[]byte{76, 0x0c, 0x0b, 0x0a, 0, 0, 4, 3, 1},
		[]byte{1, 14, 101, 13, 14, 15, 16, 17, 18, 19, 20, 21, 22, 23, 24, 25, 26, 27},
		[]byte{1, 15, 7, 200, 0x0d, 0x0e, 0, 0, 0, 0, 0, 0, 0, 0, 0, 0, 0, 0},
		append([]byte{15, 3}, make([]byte, 16)...),
	)
	sum := slowSum(entries)
	block := append(entries, byte(sum), byte(sum>>8), byte(sum>>16), byte(sum>>24))
	block = append(block, make([]byte, 189)...)
	p := logs(base(), block)
	p.Logged = 7
	wantLogged(t, "by hand", p, 1,
		api.Change{Set: 4, Obj: 1, Index: 14, Laid: api.Ptr{At: 101, Birth: 0x0f0e0d, Iv: 0x13121110, Tag: 0x17161514, Sum: 0x1b1a1918}},
		api.Change{Set: 4, Obj: 1, Index: 15, Kind: 7, Links: 200, Size: 0x0e0d},
		api.Change{Set: 4, Obj: 15, Index: 3},
	)
}

func TestP183Some(t *testing.T) {
	for _, set := range []int{1, 4, 9, 255} {
		for many := 1; many <= 7; many++ {
			l := some(set)[:many]
			p := logs(base(), slowBlock(gen, 0, 1, l...))
			wantLogged(t, fmt.Sprint("dataset ", set, ", ", many, " changes"), p, 1, l...)
			for _, laid := range []int{20, 255, 30} {
				has := slices.ContainsFunc(l, func(c api.Change) bool { return c.Laid.At == laid })
				if q := wantReplay(t, "the same", p, api.OK); (q.Store.Space[laid] == used) != has {
					t.Errorf("%d changes: block %d is %d", many, laid, q.Store.Space[laid])
				}
			}
		}
	}
}

// A log without anything, and pools that have a log elsewhere.
func TestP183None(t *testing.T) {
	wantLogged(t, "noughts", logs(base()), 0)
	wantLogged(t, "other bytes", base(), 0)
	p := logs(base())
	p.Logged = 8
	wantLogged(t, "noughts, but all was logged", p, 0)
	l := some(4)
	wantLogged(t, "from number 1 on", logs(base(), make([]byte, 256), slowBlock(gen, 1, 1, l...)), 0)
	wantLogged(t, "number 0 at another place", logs(base(), make([]byte, 256), slowBlock(gen, 0, 1, l...)), 0)
	for at := range 256 {
		if at == logFirst {
			continue
		}
		p := logs(base())
		p.Store.Disk.Blocks[at] = slowBlock(gen, 0, 1, l...)
		p.Store.Disk.Waits = nil
		if q := wantReplay(t, fmt.Sprint("block ", at), p, api.OK); len(q.Changes) > 0 {
			t.Errorf("block %d is replayed", at)
		}
	}
}

// Changes are none of the log's.
func TestP183Changes(t *testing.T) {
	for _, l := range [][]api.Change{nil, some(4)} {
		p := logs(base())
		if len(l) > 0 {
			p = logs(base(), slowBlock(gen, 0, 1, l...))
		}
		for i, c := range []api.Change{hole(1, 0, 0), heading(255, 15, 0), put(4, 0, 0), laid(9, 0, 1, 100)} {
			wantReplay(t, fmt.Sprint(len(l), " in the log, change ", i), with(p, c), api.ErrBad)
		}
		wantLogged(t, "no changes, as a list", with(p, []api.Change{}...), min(len(l), 1), l...)
	}
}

// turned is a block of the log in which something is another thing. The sum is right again, but where it is that which is turned.
type turned struct {
	what  string
	block []byte
}

// bare is a block of the log up to its sum, of these changes of dataset 4.
func bare(n, last int, changes ...api.Change) []byte {
	b := slowBlock(gen, n, last, changes...)
	return bytes.Clone(b[:9+18*len(changes)])
}

func wrongHeads(n int, l []api.Change) (all []turned) {
	turn := func(what string, of func(b []byte)) {
		b := bare(n, 1, l...)
		of(b)
		all = append(all, turned{what, summed(b)})
	}
	for _, mark := range []byte{0, 12, 67, 75, 77, 82, 204, 255} {
		turn(fmt.Sprint("begins with ", mark), func(b []byte) { b[0] = mark })
	}
	for i := range 4 {
		for _, by := range []byte{1, 2, 128, 255} {
			turn(fmt.Sprint("byte ", i, " of Gen turned by ", by), func(b []byte) { b[1+i] ^= by })
		}
	}
	for _, by := range []byte{1, 2, 3, 4, 7, 8, 76, 128, 255} {
		turn(fmt.Sprint("its number turned by ", by), func(b []byte) { b[5] ^= by })
	}
	for _, set := range []byte{0, 2, 3, 5, 8, 10, 254} {
		turn(fmt.Sprint("Set ", set), func(b []byte) { b[6] = set })
	}
	for _, many := range []int{0, 1, 2, 3, 4, 5, 6, 7, 8, 9, 10, 11, 12, 13, 14, 15, 128, 254, 255} {
		if many != len(l) {
			turn(fmt.Sprint(many, " entries, it says"), func(b []byte) { b[7] = byte(many) })
		}
	}
	for _, last := range []byte{2, 3, 4, 8, 16, 64, 128, 129, 254, 255} {
		turn(fmt.Sprint("the last one: ", last), func(b []byte) { b[8] = last })
	}
	turn("it goes on", func(b []byte) { b[8] = 0 })
	return all
}

func wrongEnds(n int, l []api.Change) (all []turned) {
	good := slowBlock(gen, n, 1, l...)
	for i := range good {
		for _, by := range []byte{1, 254} {
			b := bytes.Clone(good)
			b[i] ^= by
			all = append(all, turned{fmt.Sprint("byte ", i, " turned by ", by), b})
		}
	}
	none := slowHead(gen, n, 4, 0, 1)
	all = append(all, turned{"no entries", summed(none)}, turned{"no entries, and it goes on", summed(slowHead(gen, n, 4, 0, 0))})
	// 13 entries, and their sum, would stand in a block.
	many := slowHead(gen, n, 4, 13, 1)
	for _, c := range holes(4, 13) {
		many = append(many, slowEntry(c)...)
	}
	all = append(all, turned{"13 entries", summed(many)})
	// A sum of all bytes ahead of another place.
	long := summed(append(bare(n, 1, l...), make([]byte, 18)...))
	return append(all, turned{"a sum too far behind", long}, turned{"noughts", make([]byte, 256)}, turned{"other bytes", text(76)})
}

func wrongEntries(n int, l []api.Change) (all []turned) {
	turn := func(what string, c api.Change, of func(b []byte)) {
		b := bare(n, 1, append(slices.Clone(l[:2]), c)...)
		of(b[len(b)-18:])
		all = append(all, turned{what, summed(b)})
	}
	for _, i := range []byte{16, 17, 31, 128, 255} {
		turn(fmt.Sprint("Obj ", i), hole(4, 15, 0), func(b []byte) { b[0] = i })
		turn(fmt.Sprint("Obj of a head ", i), heading(4, 15, 1), func(b []byte) { b[0] = i })
		turn(fmt.Sprint("Index ", i), hole(4, 15, 0), func(b []byte) { b[1] = i })
		turn(fmt.Sprint("Index of what looks like a head ", i), heading(4, 15, 1), func(b []byte) { b[1] = i })
	}
	for _, kind := range []byte{8, 9, 128, 255} {
		turn(fmt.Sprint("Kind ", kind), heading(4, 15, 1), func(b []byte) { b[2] = kind })
	}
	for _, size := range [][]byte{{0x01, 0x0f}, {0, 0x10}, {0xff, 0xff}, {0, 0x80}} {
		turn(fmt.Sprint("Size ", size), heading(4, 15, 1), func(b []byte) { copy(b[4:], size) })
	}
	turn("Kind 0 with Links", heading(4, 15, 0), func(b []byte) { b[3] = 1 })
	turn("Kind 0 with a Size", heading(4, 15, 0), func(b []byte) { b[4] = 1 })
	turn("Kind 0 with a great Size", heading(4, 15, 0), func(b []byte) { b[5] = 1 })
	for i := 6; i < 18; i++ {
		for kind := range 2 {
			turn(fmt.Sprint("byte ", i, " of a head of Kind ", kind, " is none"), heading(4, 15, kind), func(b []byte) { b[i] = 1 })
		}
	}
	for i := 3; i < 18; i++ {
		turn(fmt.Sprint("byte ", i, " of a hole is not 0"), hole(4, 15, 0), func(b []byte) { b[i] = 1 })
	}
	for at := range 12 {
		turn(fmt.Sprint("laid at ", at), laid(4, 15, 0, 100), func(b []byte) { b[2] = byte(at) })
	}
	turn("Birth 0", laid(4, 15, 0, 100), func(b []byte) { clear(b[3:6]) })
	turn("At alone", hole(4, 15, 0), func(b []byte) { b[2] = 100 })
	return all
}

// wrongOrders are entries that do not rise.
func wrongOrders(n int) (all []turned) {
	for i, l := range [][]api.Change{
		{hole(4, 1, 1), hole(4, 1, 1)}, {hole(4, 1, 2), hole(4, 1, 1)}, {hole(4, 2, 1), hole(4, 1, 2)}, {heading(4, 1, 1), hole(4, 1, 14)},
		{heading(4, 1, 1), heading(4, 1, 2)}, {hole(4, 0, 0), hole(4, 2, 0), hole(4, 1, 0)}, {hole(4, 15, 0), hole(4, 0, 0)}, {hole(4, 0, 1), hole(4, 0, 0), hole(4, 0, 2)},
	} {
		all = append(all, turned{fmt.Sprint("order ", i), slowBlock(gen, n, 1, l...)})
	}
	return all
}

// A block that is none ends the log: what is whole ahead of it stays, and what is behind it counts for nothing.
func TestP183WrongBlocks(t *testing.T) {
	l := []api.Change{laid(4, 0, 0, 20), hole(4, 0, 1), heading(4, 0, 3), hole(4, 3, 3), laid(4, 3, 4, 21)}
	first, third := laid(1, 2, 3, 30), heading(9, 9, 1)
	for n := range 3 {
		all := slices.Concat(wrongHeads(n, l), wrongEnds(n, l), wrongEntries(n, l), wrongOrders(n))
		var good [][]byte
		for _, x := range all {
			blocks := [][]byte{slowBlock(gen, 0, 1, first), slowBlock(gen, 1, 1, third), slowBlock(gen, 2, 1, third), slowBlock(gen, 3, 1, third)}
			blocks[n] = x.block
			want := []api.Change{first, third}[:n]
			wantLogged(t, fmt.Sprint("block ", n, ": ", x.what), logs(base(), blocks...), n, want...)
			good = blocks
		}
		good[n] = slowBlock(gen, n, 1, l...)
		if q := wantReplay(t, "a block that is one", logs(base(), good...), api.OK); q.Logged != 4 {
			t.Errorf("a block that is one as block %d: %d blocks", n, q.Logged)
		}
	}
}

// The same within a commit: nothing of it is replayed, wherever it is wrong.
func TestP183Whole(t *testing.T) {
	ahead := laid(1, 2, 3, 30)
	l := holes(4, 36)
	l[0], l[20], l[35] = laid(4, 0, 0, 20), laid(4, 1, 5, 21), laid(4, 2, 5, 22)
	for n := range 3 {
		good := slices.Concat(slowBlocks(gen, 0, []api.Change{ahead}), slowBlocks(gen, 1, l))
		wantLogged(t, "three blocks", logs(base(), good...), 4, append([]api.Change{ahead}, l...)...)
		part := l[n*12 : n*12+12]
		last := 0
		if n == 2 {
			last = 1
		}
		for _, x := range []turned{
			{"another Gen", slowBlock(gen-1, n+1, last, part...)},
			{"another number", slowBlock(gen, n+2, last, part...)},
			{"marked the other way", slowBlock(gen, n+1, 1-last, part...)},
			{"another Set", slowBlock(gen, n+1, last, holes(9, 12)...)},
			{"noughts", make([]byte, 256)},
			{"the first part", slowBlock(gen, n+1, last, append([]api.Change{l[0]}, part[1:]...)...)},
			{"it falls within", slowBlock(gen, n+1, last, append(slices.Clone(part[:11]), part[10])...)},
			{"11 of 12", slowBlock(gen, n+1, 0, part[1:]...)},
			{"12th above the next one", slowBlock(gen, n+1, last, append(slices.Clone(part[:11]), hole(4, 15, 14))...)},
		} {
			if n == 0 && x.what == "the first part" || n == 2 && x.what == "12th above the next one" {
				continue
			}
			blocks := slices.Clone(good)
			blocks[1+n] = x.block
			q := wantReplay(t, fmt.Sprint("block ", n, ": ", x.what), logs(base(), blocks...), api.OK)
			if whole := q.Logged > 1; whole != (x.what == "marked the other way" && n < 2) {
				t.Errorf("block %d: %s: %d blocks", n, x.what, q.Logged)
			}
		}
	}
}

// Where the mark comes too soon, there are two commits; if what follows is none, it is the last one.
func TestP183Marks(t *testing.T) {
	l := holes(4, 30)
	p := logs(base(), slowBlock(gen, 0, 1, l[:12]...), slowBlock(gen, 1, 1, l[12:24]...), slowBlock(gen, 2, 1, l[24:]...))
	wantLogged(t, "three commits", p, 3, l...)
	p = logs(base(), slowBlock(gen, 0, 0, l[:12]...), slowBlock(gen, 1, 1, l[12:24]...), slowBlock(gen, 2, 0, l[24:]...))
	wantLogged(t, "two blocks, and a part", p, 2, l[:24]...)
	p = logs(base(), slowBlock(gen, 0, 0, l[:12]...), slowBlock(gen, 1, 0, l[12:24]...))
	wantLogged(t, "no end", p, 0)
	p = logs(base(), slowBlock(gen, 0, 1, l[12:24]...), slowBlock(gen, 1, 1, l[:12]...))
	wantLogged(t, "two commits, the later one of lower places", p, 2, l[:24]...)
	// All ahead of the last one of a commit are full.
	for many := 1; many < 13; many++ {
		p = logs(base(), slowBlock(gen, 0, 0, l[:many]...), slowBlock(gen, 1, 1, l[many:many+many%12+1]...))
		want := 0
		if many == 12 {
			want = 2
		}
		if q := wantReplay(t, fmt.Sprint(many, " in the first one"), p, api.OK); q.Logged != want {
			t.Errorf("%d in the first one: %d blocks", many, q.Logged)
		}
	}
}

// Logs of all lengths, up to the last block; the block behind is none of the log's.
func TestP183Long(t *testing.T) {
	for many := 1; many <= 96; many++ {
		l := holes(9, many)
		l[many-1] = laid(9, (many-1)/15, (many-1)%15, 20)
		wantLogged(t, fmt.Sprint(many, " changes"), logs(base(), slowBlocks(gen, 0, l)...), (many+11)/12, l...)
	}
	var blocks [][]byte
	var all []api.Change
	for n := range 8 {
		all = append(all, laid(255, n, n, 96+n))
		blocks = append(blocks, slowBlock(gen, n, 1, all[n]))
	}
	all[3].Laid = none
	blocks[3] = slowBlock(gen, 3, 1, all[3])
	wantLogged(t, "eight commits", logs(base(), blocks...), 8, all...)
	// A commit whose end would be block 12.
	p := base()
	l := holes(4, 20)
	p.Store.Disk.Waits = nil
	blocks[7] = slowBlock(gen, 7, 0, l[:12]...)
	p = logs(p, blocks...)
	p.Store.Disk.Blocks[12] = slowBlock(gen, 8, 1, l[12:]...)
	wantLogged(t, "an end behind the log", p, 7, all[:7]...)
}

// The later ones stand instead of the earlier ones, of one dataset and of several, in the order of all.
func TestP183Instead(t *testing.T) {
	commits := [][]api.Change{
		{laid(9, 0, 0, 100), hole(9, 0, 1), heading(9, 0, 1), laid(9, 1, 0, 101)},
		{laid(1, 0, 0, 102), heading(1, 15, 2)},
		{hole(9, 0, 0), laid(9, 0, 1, 104), heading(9, 0, 0)},
		{laid(255, 3, 3, 105)},
		{laid(1, 0, 0, 106), heading(1, 0, 1)},
		{laid(9, 0, 0, 108), hole(9, 0, 2)},
	}
	wants := [][]api.Change{
		commits[0],
		{laid(1, 0, 0, 102), heading(1, 15, 2), laid(9, 0, 0, 100), hole(9, 0, 1), heading(9, 0, 1), laid(9, 1, 0, 101)},
		{laid(1, 0, 0, 102), heading(1, 15, 2), hole(9, 0, 0), laid(9, 0, 1, 104), heading(9, 0, 0), laid(9, 1, 0, 101)},
		{laid(1, 0, 0, 102), heading(1, 15, 2), hole(9, 0, 0), laid(9, 0, 1, 104), heading(9, 0, 0), laid(9, 1, 0, 101), laid(255, 3, 3, 105)},
		{laid(1, 0, 0, 106), heading(1, 0, 1), heading(1, 15, 2), hole(9, 0, 0), laid(9, 0, 1, 104), heading(9, 0, 0), laid(9, 1, 0, 101), laid(255, 3, 3, 105)},
		{laid(1, 0, 0, 106), heading(1, 0, 1), heading(1, 15, 2), laid(9, 0, 0, 108), laid(9, 0, 1, 104), hole(9, 0, 2), heading(9, 0, 0), laid(9, 1, 0, 101), laid(255, 3, 3, 105)},
	}
	var blocks [][]byte
	for n, l := range commits {
		blocks = append(blocks, slowBlock(gen, n, 1, l...))
		p := logs(base(), blocks...)
		wantLogged(t, fmt.Sprint(n+1, " commits"), p, n+1, wants[n]...)
		q := wantReplay(t, "the same", p, api.OK)
		for at := 100; at < 109; at++ {
			has := slices.ContainsFunc(wants[n], func(c api.Change) bool { return c.Laid.At == at })
			if want := p.Store.Space[at]; has && q.Store.Space[at] != used || !has && q.Store.Space[at] != want {
				t.Errorf("%d commits: block %d is %d", n+1, at, q.Store.Space[at])
			}
		}
	}
	// Of many commits of one place the last one counts.
	blocks = nil
	for n := range 8 {
		l := laid(4, 7, 7, 100+8*(n%2))
		blocks = append(blocks, slowBlock(gen, n, 1, l))
		wantLogged(t, fmt.Sprint(n, " ahead"), logs(base(), blocks...), n+1, l)
	}
}

// What is laid stands at blocks that are free, each at one of its own.
func TestP183Blocks(t *testing.T) {
	one := func(l ...api.Change) api.Pool { return logs(base(), slowBlocks(gen, 0, l)...) }
	for at := firstBlock; at <= lastBlock; at++ {
		want := api.ErrBad
		if base().Store.Space[at] == unused {
			want = api.OK
		}
		c := laid(4, 0, 0, at)
		wantReplay(t, fmt.Sprint("block ", at), one(c), want)
		wantReplay(t, fmt.Sprint("block ", at, " among others"), one(laid(4, 0, 0, 100), hole(4, 0, 1), laid(4, 9, 0, at), laid(4, 15, 14, 101)), map[bool]api.Errno{true: api.ErrBad, false: want}[at == 100 || at == 101])
		// What is replaced asks for nothing.
		p := logs(base(), slowBlock(gen, 0, 1, c), slowBlock(gen, 1, 1, hole(4, 0, 0)))
		wantLogged(t, fmt.Sprint("block ", at, ", and a hole instead"), p, 2, hole(4, 0, 0))
		p = logs(base(), slowBlock(gen, 0, 1, hole(4, 0, 0)), slowBlock(gen, 1, 1, c))
		wantReplay(t, fmt.Sprint("a hole, and block ", at, " instead"), p, want)
		p = logs(base(), slowBlock(gen, 0, 1, c), slowBlock(gen, 1, 1, c))
		wantReplay(t, fmt.Sprint("block ", at, ", and once more instead"), p, want)
	}
	wantReplay(t, "one block twice", one(laid(4, 0, 0, 100), laid(4, 0, 1, 100)), api.ErrBad)
	wantReplay(t, "one block at both ends", one(laid(4, 0, 0, 100), laid(4, 0, 1, 101), laid(4, 15, 1, 100)), api.ErrBad)
	p := logs(base(), slowBlock(gen, 0, 1, laid(1, 0, 0, 100)), slowBlock(gen, 1, 1, laid(4, 0, 0, 100)))
	wantReplay(t, "one block of two datasets", p, api.ErrBad)
	p = logs(base(), slowBlock(gen, 0, 1, laid(4, 0, 0, 100)), slowBlock(gen, 1, 1, laid(1, 0, 0, 100)), slowBlock(gen, 2, 1, laid(4, 0, 0, 101)))
	wantLogged(t, "one block of two datasets, one of which has another one instead", p, 3, laid(1, 0, 0, 100), laid(4, 0, 0, 101))
	p = logs(base(), slowBlock(gen, 0, 1, laid(4, 0, 0, 100)), slowBlock(gen, 1, 1, laid(4, 0, 0, 101), laid(4, 0, 1, 100)))
	wantLogged(t, "a block that goes on to another place", p, 2, laid(4, 0, 0, 101), laid(4, 0, 1, 100))
	// Two pointers that differ but in what is not their block.
	b := laid(4, 0, 1, 100)
	b.Laid.Birth, b.Laid.Sum = 1, 2
	wantReplay(t, "one block, by two pointers", one(laid(4, 0, 0, 100), b), api.ErrBad)
}

// The log is read as it is seen: with what waits.
func TestP183Seen(t *testing.T) {
	l, m := some(4), laid(1, 2, 3, 100)
	p := logs(base())
	p.Store.Disk.Waits = append(p.Store.Disk.Waits, api.Write{At: 5, Data: slowBlock(gen, 1, 1, m)}, api.Write{At: 4, Data: slowBlock(gen, 0, 1, l...)})
	wantLogged(t, "all of it waits", p, 2, append([]api.Change{m}, l...)...)
	p.Store.Disk.Waits = append(p.Store.Disk.Waits, api.Write{At: 4, Data: text(1)})
	wantLogged(t, "other bytes wait for it", p, 0)
	p = logs(base(), slowBlock(gen, 0, 1, l...), slowBlock(gen, 1, 1, m))
	p.Store.Disk.Waits = []api.Write{{At: 5, Data: make([]byte, 256)}}
	wantLogged(t, "noughts wait for the second one", p, 1, l...)
}

// Every field that a replay does not name is as it was.
func TestP183Fields(t *testing.T) {
	p := logs(mixed(), slowBlock(gen, 0, 1, some(4)...))
	p.Changes = nil
	q := wantReplay(t, "mixed", p, api.OK)
	want := slowTwin(p)
	want.Changes, want.Logged = q.Changes, 1
	for _, at := range []int{20, 30, 255} {
		want.Store.Space[at] = used
	}
	if d := differ(q, want); d != "" {
		t.Error(d)
	}
}

// Gen has four bytes: pools of Gens that differ in one of them have unlike logs.
func TestP183Gen(t *testing.T) {
	gens := []uint32{1, 2, 255, 256, 257, 65535, 65536, 65537, mostTxg - 1, mostTxg}
	for _, of := range gens {
		for _, in := range gens {
			p := logs(base(), slowBlock(in, 0, 1, some(9)...))
			p.Gen = of
			if q := wantReplay(t, fmt.Sprint("Gen ", of, ", a log of Gen ", in), p, api.OK); (q.Logged == 1) != (of == in) {
				t.Errorf("Gen %d, a log of Gen %d: %d blocks", of, in, q.Logged)
			}
		}
	}
}
