package log

import (
	"bytes"
	"cmp"
	"slices"

	"charterhouse/api"
	"charterhouse/code"
	"charterhouse/dev"
	"charterhouse/mix"
	"charterhouse/ptr"
	"charterhouse/txg"
)

const (
	mark      = 76 // what a block of the log begins with
	genSize   = 4  // bytes of Gen
	sumSize   = 4  // and of the sum
	setAt     = 6  // where Set stands, behind Gen and the block's number
	manyAt    = 7  // how many entries
	lastAt    = 8  // whether it is the last one of its commit
	headSize  = 9  // bytes ahead of the entries
	sizeAt    = 4  // where a head's Size stands in its entry
	sizeSize  = 2
	laidAt    = 2 // where another place's Laid stands in its entry
	entrySize = 18
)

// entry is a change's bytes.
type entry [entrySize]byte

// entryOf is asked for changes that may be alone: Put and Write refuse none.
func entryOf(c api.Change) entry {
	x := entry{byte(c.Obj), byte(c.Index)}
	if c.Index == api.Head {
		x[2], x[3] = c.Kind, byte(c.Links)
		size, _ := code.Put(c.Size, sizeSize)
		copy(x[sizeAt:], size)
		return x
	}
	laid, _ := ptr.Write(c.Laid)
	copy(x[laidAt:], laid)
	return x
}

// change tells the change whose bytes these are, if they are one's. That they are made once more asks for a head's noughts.
func (x entry) change(set int) (c api.Change, ok bool) {
	c = api.Change{Set: set, Obj: int(x[0]), Index: int(x[1])}
	if c.Index != api.Head {
		laid, e := ptr.Read(x[laidAt:])
		c.Laid = laid
		return c, e == api.OK
	}
	c.Kind, c.Links = x[2], int(x[3])
	c.Size, _ = code.Get(x[:], sizeAt, sizeSize)
	return c, entryOf(c) == x
}

// page is a block of the log.
type page struct {
	gen     uint32
	n       int // its number
	set     int
	last    bool // of its commit
	entries []entry
}

func (x page) block() []byte {
	b := []byte{mark}
	gen, _ := code.Put(int(x.gen), genSize)
	b = append(b, gen...)
	b = append(b, byte(x.n), byte(x.set), byte(len(x.entries)), 0)
	if x.last {
		b[lastAt] = 1
	}
	for _, one := range x.entries {
		b = append(b, one[:]...)
	}
	sum, _ := code.Put(int(mix.Sum(b)), sumSize)
	block := make([]byte, api.Size)
	copy(block, append(b, sum...))
	return block
}

// blocksFor tells how many blocks so many changes have.
func blocksFor(changes int) int {
	return (changes + api.Entries - 1) / api.Entries
}

// blocksOf tells the blocks of a commit, the first one of which has number n.
func blocksOf(gen uint32, n int, own []api.Change) (blocks [][]byte) {
	var entries []entry
	for _, c := range own {
		entries = append(entries, entryOf(c))
	}
	left := blocksFor(len(entries))
	for part := range slices.Chunk(entries, api.Entries) {
		left--
		x := page{gen: gen, n: n + len(blocks), set: own[0].Set, last: left == 0, entries: part}
		blocks = append(blocks, x.block())
	}
	return blocks
}

// pageOf tells the block of the log with a number, if one of the pool's Gen stands there. That it is made once more asks for its first bytes, its sum and its noughts at once.
func pageOf(p api.Pool, n int) (x page, ok bool) {
	// Both may be: Read refuses none.
	b, _ := dev.Read(p.Store.Disk, api.LogFirst+n)
	many := int(b[manyAt])
	if many < 1 || many > api.Entries {
		return page{}, false
	}
	x = page{gen: p.Gen, n: n, set: int(b[setAt]), last: b[lastAt] == 1}
	for part := range slices.Chunk(b[headSize:headSize+many*entrySize], entrySize) {
		x.entries = append(x.entries, entry(part))
	}
	return x, bytes.Equal(b, x.block())
}

// changes are those of the entries, if each is one's.
func (x page) changes() (l []api.Change, ok bool) {
	for _, one := range x.entries {
		c, ok := one.change(x.set)
		if !ok {
			return nil, false
		}
		l = append(l, c)
	}
	return l, true
}

// goesOn tells whether the page is of the commit that has these changes so far. All ahead of a commit's last page are full.
func (x page) goesOn(sofar []api.Change) bool {
	return (x.last || len(x.entries) == api.Entries) && (len(sofar) == 0 || sofar[0].Set == x.set)
}

// logged tells the changes of the commits of p's log, and how many blocks these have.
func logged(p api.Pool) (all []api.Change, blocks int) {
	var own []api.Change // of the commit that is not whole yet
	for n := range api.Logs {
		x, ok := pageOf(p, n)
		if !ok || !x.goesOn(own) {
			break
		}
		more, ok := x.changes()
		own = append(own, more...)
		if !ok || !mayBe(p, own) {
			break
		}
		if x.last {
			all, blocks, own = instead(own, all), n+1, nil
		}
	}
	return all, blocks
}

// mayBe asks the pool as it would be with these changes alone: what is asked of changes is said there.
func mayBe(p api.Pool, own []api.Change) bool {
	p.Changes = own
	return txg.Check(p) == api.OK
}

// instead tells changes in order, the later ones instead of the earlier ones.
func instead(later, earlier []api.Change) []api.Change {
	order := func(a, b api.Change) int {
		return cmp.Or(cmp.Compare(a.Set, b.Set), cmp.Compare(a.Obj, b.Obj), cmp.Compare(a.Index, b.Index))
	}
	all := slices.Concat(later, earlier)
	// Of two that are equal in order the first one stays first, and is kept.
	slices.SortStableFunc(all, order)
	return slices.CompactFunc(all, func(a, b api.Change) bool { return order(a, b) == 0 })
}
