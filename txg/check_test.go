package txg_test

import (
	"bytes"
	"fmt"
	"math"
	"reflect"
	"slices"
	"testing"

	"charterhouse/api"
	"charterhouse/txg"
)

// grown is a pool that may be, and has something in each of its fields. It was never synced: what its pointers lead to counts for nothing.
func grown() api.Pool {
	x := newShelf()
	p := api.Pool{
		Store:    api.Store{Disk: x.d, Epoch: 9, Count: 299},
		Gen:      9,
		Root:     api.Ptr{At: 14, Birth: 9, Iv: 1, Tag: 2, Sum: 5},
		Meta:     []int{12, 13, 14, 40},
		Keys:     [][]byte{wrapped(1), nil, wrapped(2), {}, nil, nil, nil, wrapped(3)},
		Loaded:   [][]byte{key(1), nil, nil, key(4), {}, nil, nil, make([]byte, 16)},
		Logged:   3,
		NextId:   9,
		NextGuid: 41,
	}
	p.Store.Disk.Waits = []api.Write{{At: 200, Data: text(1)}, {At: 3, Data: text(2)}, {At: 200, Data: text(3)}}
	for at := range 256 {
		mark := byte(used)
		if at > 100 {
			mark = byte(at % 3)
		}
		p.Store.Space = append(p.Store.Space, mark)
	}
	at := func(block, birth int) api.Ptr {
		return api.Ptr{At: block, Birth: uint32(birth), Sum: uint32(block * birth)}
	}
	p.Lines = []api.Line{
		{Id: 1, Kind: isHead, Owner: 1, Prev: 2, Txg: 5, Guid: 10, Root: at(30, 8), Dead: []api.Ptr{at(41, 1), at(43, 5)}},
		{Id: 2, Kind: isSnap, Owner: 1, Txg: 5, Guid: 7, Root: at(31, 4)},
		{Id: 4, Kind: isSnap, Owner: 6, Prev: 2, Txg: 6, Guid: 40, Root: at(32, 6), Dead: []api.Ptr{at(44, 2)}},
		{Id: 6, Kind: isHead, Owner: 6, Prev: 4, Txg: 6, Guid: 11, Root: at(33, 7)},
		{Id: 8, Kind: isHead, Owner: 8, Key: 7},
	}
	p.Changes = []api.Change{
		{Set: 1, Obj: 0, Index: 3, Data: text(7)},
		{Set: 1, Obj: 0, Index: 15, Kind: 1, Links: 1, Size: 300},
		{Set: 1, Obj: 15, Index: 0},
		{Set: 6, Obj: 2, Index: 14, Laid: at(50, 10)},
		{Set: 6, Obj: 2, Index: 15},
		{Set: 8, Obj: 0, Index: 0, Data: text(8), Laid: at(51, 10)},
		{Set: 8, Obj: 15, Index: 15, Kind: 7, Links: 255, Size: 3840},
	}
	return p
}

// turn is a pool in which something is another thing.
type turn struct {
	what string
	of   func(p *api.Pool)
}

// right are turns behind which grown still may be.
func right() []turn {
	all := []turn{
		{"nothing", func(p *api.Pool) {}},
		{"the greatest Gen", func(p *api.Pool) { p.Gen = mostTxg }},
		{"Gen 1", func(p *api.Pool) { p.Gen = 1 }},
		{"never synced", func(p *api.Pool) { p.Gen, p.Root = 0, none }},
		{"Root somewhere else", func(p *api.Pool) { p.Root = api.Ptr{At: 255, Birth: mostTxg} }},
		{"no Meta", func(p *api.Pool) { p.Meta = nil }},
		{"Meta without any", func(p *api.Pool) { p.Meta = []int{} }},
		{"Meta without the Root", func(p *api.Pool) { p.Meta = []int{40, 41} }},
		{"Meta at the edges", func(p *api.Pool) { p.Store.Space[255] = used; p.Meta = []int{12, 255} }},
		{"no lines", func(p *api.Pool) { p.Lines, p.Changes = nil, nil }},
		{"no lines, NextId 1, NextGuid 0", func(p *api.Pool) { p.Lines, p.Changes, p.NextId, p.NextGuid = nil, nil, 1, 0 }},
		{"no lines, NextId 256", func(p *api.Pool) { p.Lines, p.Changes, p.NextId = nil, nil, 256 }},
		{"the greatest Id", func(p *api.Pool) { p.Lines[4].Id, p.Lines[4].Owner, p.NextId = 255, 255, 256; p.Changes = nil }},
		{"a head comes from one as old", func(p *api.Pool) { p.Lines[3].Txg = 6 }},
		{"a head comes from an older one", func(p *api.Pool) { p.Lines[3].Txg = mostTxg }},
		{"a snapshot comes from a younger line's", func(p *api.Pool) { p.Lines[2].Txg, p.Lines[3].Txg = mostTxg, mostTxg }},
		{"a snapshot comes from one of Txg 0", func(p *api.Pool) { p.Lines[1].Txg = 0; p.Lines[2].Txg = 1 }},
		{"a snapshot comes from one with a higher Id", func(p *api.Pool) { p.Lines[1].Prev, p.Lines[1].Txg, p.Lines[2].Prev = 4, 7, 0; p.Lines[0].Txg = 7 }},
		{"a head comes from another one's snapshot", func(p *api.Pool) { p.Lines[0].Prev, p.Lines[0].Txg = 4, 6 }},
		{"Gen is lower than a Txg", func(p *api.Pool) { p.Gen = 2 }},
		{"no keys", func(p *api.Pool) { p.Keys = make([][]byte, 8) }},
		{"all keys", func(p *api.Pool) { p.Keys = slices.Repeat([][]byte{wrapped(5)}, 8) }},
		{"a key whose last byte alone is one", func(p *api.Pool) { p.Keys[3] = append(make([]byte, 23), 1) }},
		{"all are loaded", func(p *api.Pool) { p.Loaded = slices.Repeat([][]byte{key(5)}, 8) }},
		{"none is loaded", func(p *api.Pool) { p.Loaded = make([][]byte, 8) }},
		{"no changes", func(p *api.Pool) { p.Changes = []api.Change{} }},
		{"all of an object's places", func(p *api.Pool) {
			p.Changes = nil
			for i := range 16 {
				p.Changes = append(p.Changes, api.Change{Set: 6, Obj: 9, Index: i})
			}
		}},
		{"a head of Kind 0, its Data empty", func(p *api.Pool) { p.Changes[4].Data = []byte{} }},
		{"a hole, its Data empty", func(p *api.Pool) { p.Changes[2].Data = []byte{} }},
		{"Laid in a sync to come", func(p *api.Pool) { p.Changes[3].Laid.Birth = mostTxg }},
		{"nothing is logged", func(p *api.Pool) { p.Logged = 0 }},
		{"all is logged", func(p *api.Pool) { p.Logged = 8 }},
		{"a full dead list", func(p *api.Pool) { p.Lines[1].Dead = every(240) }},
		{"NextGuid", func(p *api.Pool) { p.NextGuid = mostNumber }},
		{"the greatest Guid", func(p *api.Pool) { p.Lines[0].Guid, p.NextGuid = mostNumber-1, mostNumber }},
		{"one Guid twice", func(p *api.Pool) { p.Lines[0].Guid = 7 }},
		{"no writes wait", func(p *api.Pool) { p.Store.Disk.Waits = nil }},
		{"the edges of a store", func(p *api.Pool) { p.Store.Epoch, p.Store.Count = mostEpoch, mostCount }},
	}
	for i := range 8 {
		all = append(all, turn{fmt.Sprint("key ", i, " of a line"), func(p *api.Pool) { p.Lines[4].Key = i }})
	}
	for kind := range uint8(8) {
		all = append(all, turn{fmt.Sprint("a change's Kind ", kind), func(p *api.Pool) { p.Changes[4].Kind = kind }})
	}
	all = append(all, turn{"16 lines", func(p *api.Pool) { p.Lines, p.Changes, p.NextId = heads(16), nil, 17 }})
	return all
}

// heads are so many datasets without anything.
func heads(many int) (l []api.Line) {
	for i := range many {
		l = append(l, api.Line{Id: i + 1, Kind: isHead, Owner: i + 1})
	}
	return l
}

// every has so many pointers, from block 12 on.
func every(many int) (l []api.Ptr) {
	for i := range many {
		l = append(l, api.Ptr{At: 12 + i, Birth: 1})
	}
	return l
}

// wrongPtrs are such as may not be.
func wrongPtrs() []api.Ptr {
	return []api.Ptr{
		{At: 11, Birth: 1}, {At: 256, Birth: 1}, {At: -1, Birth: 1}, {At: 20}, {Birth: 1}, {Sum: 1}, {Iv: 1}, {Tag: 1},
		{At: 20, Birth: 1 << 24}, {At: 20, Birth: mostNumber}, {At: math.MaxInt, Birth: 1}, {At: math.MinInt, Birth: 1}, {At: 276, Birth: 1},
	}
}

// wrong are turns behind which grown may not be.
func wrong() []turn {
	return slices.Concat(wrongStores(), wrongNumbers(), wrongLines(), wrongChanges())
}

func wrongStores() []turn {
	return []turn{
		{"no store", func(p *api.Pool) { p.Store = api.Store{} }},
		{"no disk", func(p *api.Pool) { p.Store.Disk = api.Disk{} }},
		{"one block less", func(p *api.Pool) { p.Store.Disk.Blocks = p.Store.Disk.Blocks[:255] }},
		{"a short block", func(p *api.Pool) { p.Store.Disk.Blocks[255] = text(1)[:255] }},
		{"a write to 256", func(p *api.Pool) { p.Store.Disk.Waits[2].At = 256 }},
		{"a short write", func(p *api.Pool) { p.Store.Disk.Waits[2].Data = nil }},
		{"too many writes", func(p *api.Pool) { p.Store.Disk.Waits = slices.Repeat(p.Store.Disk.Waits[:1], 4097) }},
		{"no table", func(p *api.Pool) { p.Store.Space = nil }},
		{"a short table", func(p *api.Pool) { p.Store.Space = p.Store.Space[:255] }},
		{"a long table", func(p *api.Pool) { p.Store.Space = append(p.Store.Space, used) }},
		{"a fixed one is free", func(p *api.Pool) { p.Store.Space[11] = unused }},
		{"another mark", func(p *api.Pool) { p.Store.Space[255] = 3 }},
		{"Epoch 0", func(p *api.Pool) { p.Store.Epoch = 0 }},
		{"Epoch 65536", func(p *api.Pool) { p.Store.Epoch = 65536 }},
		{"Count 65536", func(p *api.Pool) { p.Store.Count = 65536 }},
	}
}

func wrongNumbers() []turn {
	all := []turn{
		{"Gen 0, and a Root", func(p *api.Pool) { p.Gen = 0 }},
		{"a Gen, and no Root", func(p *api.Pool) { p.Root = none }},
		{"too great a Gen", func(p *api.Pool) { p.Gen = 1 << 24 }},
		{"the greatest number as Gen", func(p *api.Pool) { p.Gen = mostNumber }},
		{"too many are logged", func(p *api.Pool) { p.Logged = 9 }},
		{"less than none is logged", func(p *api.Pool) { p.Logged = -1 }},
		{"very many are logged", func(p *api.Pool) { p.Logged = math.MaxInt }},
		{"NextId is the last line's", func(p *api.Pool) { p.NextId = 8 }},
		{"NextId is another line's", func(p *api.Pool) { p.NextId = 4 }},
		{"NextId 0", func(p *api.Pool) { p.NextId = 0 }},
		{"NextId below 0", func(p *api.Pool) { p.NextId = math.MinInt }},
		{"NextId 0, no lines", func(p *api.Pool) { p.NextId, p.Lines, p.Changes = 0, nil, nil }},
		{"NextId -1, no lines", func(p *api.Pool) { p.NextId, p.Lines, p.Changes = -1, nil, nil }},
		{"NextId -5, no lines", func(p *api.Pool) { p.NextId, p.Lines, p.Changes = -5, nil, nil }},
		{"NextId far below 0, no lines", func(p *api.Pool) { p.NextId, p.Lines, p.Changes = math.MinInt, nil, nil }},
		{"NextId 257", func(p *api.Pool) { p.NextId = 257 }},
		{"NextId 257, no lines", func(p *api.Pool) { p.NextId, p.Lines, p.Changes = 257, nil, nil }},
		{"a great NextId", func(p *api.Pool) { p.NextId = math.MaxInt }},
		{"NextGuid is a line's", func(p *api.Pool) { p.NextGuid = 40 }},
		{"NextGuid is lower", func(p *api.Pool) { p.NextGuid = 12 }},
		{"NextGuid 0", func(p *api.Pool) { p.NextGuid = 0 }},
		{"the greatest Guid of all", func(p *api.Pool) { p.Lines[4].Guid, p.NextGuid = mostNumber, mostNumber }},
	}
	for i, meta := range [][]int{{11}, {0}, {-1}, {256}, {12, 12}, {13, 12}, {12, 13, 40, 14}, {12, 256}, {math.MaxInt}, {math.MinInt, 12}, {12, 13, 14, 13}} {
		all = append(all, turn{fmt.Sprint("Meta ", i), func(p *api.Pool) { p.Meta = meta }})
	}
	for _, mark := range []byte{unused, later} {
		for i := range 4 {
			all = append(all, turn{fmt.Sprint("Meta's place ", i, " is ", mark), func(p *api.Pool) { p.Store.Space[p.Meta[i]] = mark }})
		}
	}
	for i, x := range wrongPtrs() {
		all = append(all, turn{fmt.Sprint("a wrong Root ", i), func(p *api.Pool) { p.Root = x }})
		all = append(all, turn{fmt.Sprint("a wrong Root, Gen 0, ", i), func(p *api.Pool) { p.Root, p.Gen = x, 0 }})
	}
	for what, keys := range map[string][][]byte{"none": nil, "seven": make([][]byte, 7), "nine": make([][]byte, 9), "very many": make([][]byte, 1<<16)} {
		all = append(all, turn{what + " in Keys", func(p *api.Pool) { p.Keys = keys }})
		all = append(all, turn{what + " in Loaded", func(p *api.Pool) { p.Loaded = keys }})
	}
	for i := range 8 {
		for _, long := range []int{1, 15, 16, 23, 25, 32, 48, 256} {
			all = append(all, turn{fmt.Sprint("key ", i, " of ", long), func(p *api.Pool) { p.Keys[i] = text(1)[:long] }})
		}
		for _, long := range []int{1, 8, 15, 17, 24, 32, 256} {
			all = append(all, turn{fmt.Sprint("loaded ", i, " of ", long), func(p *api.Pool) { p.Loaded[i] = text(1)[:long] }})
		}
		all = append(all, turn{fmt.Sprint("key ", i, " of noughts"), func(p *api.Pool) { p.Keys[i] = make([]byte, 24) }})
	}
	return all
}

func wrongLines() []turn {
	all := []turn{
		{"17 lines", func(p *api.Pool) { p.Lines, p.Changes, p.NextId = heads(17), nil, 18 }},
		{"very many lines", func(p *api.Pool) { p.Lines, p.Changes = make([]api.Line, 1<<16), nil }},
		{"lines that fall", func(p *api.Pool) { p.Lines[0], p.Lines[1] = p.Lines[1], p.Lines[0] }},
		{"one line twice", func(p *api.Pool) { p.Lines = append(p.Lines, p.Lines[4]) }},
		{"one Id twice", func(p *api.Pool) { p.Lines[2].Id = 2 }},
		{"the first one falls", func(p *api.Pool) { p.Lines[0].Id, p.Lines[0].Owner = 7, 7; p.Changes = nil }},
		{"Id 0", func(p *api.Pool) { p.Lines[0].Id, p.Lines[0].Owner = 0, 0; p.Lines[1].Owner, p.Changes = 6, nil }},
		{"Id below 0", func(p *api.Pool) { p.Lines[0].Id, p.Lines[0].Owner = -1, -1; p.Lines[1].Owner, p.Changes = 6, nil }},
		{"Id 256", func(p *api.Pool) { p.Lines[4].Id, p.Lines[4].Owner, p.NextId, p.Changes = 256, 256, 257, nil }},
		{"Kind 0", func(p *api.Pool) { p.Lines[4].Kind, p.Changes = 0, nil }},
		{"Kind 3", func(p *api.Pool) { p.Lines[4].Kind, p.Changes = 3, nil }},
		{"Kind 255", func(p *api.Pool) { p.Lines[4].Kind, p.Changes = 255, nil }},
		{"a head of another one", func(p *api.Pool) { p.Lines[4].Owner = 6 }},
		{"a head of nobody", func(p *api.Pool) { p.Lines[4].Owner = 0 }},
		{"a snapshot of nobody", func(p *api.Pool) { p.Lines[1].Owner = 0 }},
		{"a snapshot of none", func(p *api.Pool) { p.Lines[1].Owner = 3 }},
		{"a snapshot of itself", func(p *api.Pool) { p.Lines[1].Owner = 2 }},
		{"a snapshot of a snapshot", func(p *api.Pool) { p.Lines[1].Owner = 4 }},
		{"from a head", func(p *api.Pool) { p.Lines[0].Prev = 6 }},
		{"from itself", func(p *api.Pool) { p.Lines[0].Prev = 1 }},
		{"a snapshot from itself", func(p *api.Pool) { p.Lines[1].Prev = 2 }},
		{"from none", func(p *api.Pool) { p.Lines[0].Prev = 3 }},
		{"from below 0", func(p *api.Pool) { p.Lines[0].Prev = -1 }},
		{"from far away", func(p *api.Pool) { p.Lines[0].Prev = 258 }},
		{"another key than where it comes from", func(p *api.Pool) { p.Lines[0].Key = 1 }},
		{"a snapshot with another key", func(p *api.Pool) { p.Lines[2].Key = 1 }},
		{"where it comes from has another key", func(p *api.Pool) { p.Lines[1].Key = 7 }},
		{"a head older than where it comes from", func(p *api.Pool) { p.Lines[0].Txg = 4 }},
		{"a snapshot as old as where it comes from", func(p *api.Pool) { p.Lines[2].Txg = 5 }},
		{"a snapshot older than where it comes from", func(p *api.Pool) { p.Lines[2].Txg = 4 }},
		{"two snapshots that come from one another", func(p *api.Pool) { p.Lines[1].Prev = 4 }},
		{"two as old that come from one another", func(p *api.Pool) { p.Lines[1].Prev, p.Lines[2].Txg = 4, 5 }},
		{"too great a Txg", func(p *api.Pool) { p.Lines[4].Txg = 1 << 24 }},
		{"the greatest number as Txg", func(p *api.Pool) { p.Lines[4].Txg = mostNumber }},
		{"key 8", func(p *api.Pool) { p.Lines[4].Key = 8 }},
		{"key below 0", func(p *api.Pool) { p.Lines[4].Key = -1 }},
		{"a great key", func(p *api.Pool) { p.Lines[4].Key = math.MaxInt }},
		{"a dead list of none", func(p *api.Pool) { p.Lines[4].Dead = []api.Ptr{none} }},
		{"a dead list that falls", func(p *api.Pool) { slices.Reverse(p.Lines[0].Dead) }},
		{"a dead list with one block twice", func(p *api.Pool) { p.Lines[0].Dead[1].At = 41 }},
		{"too long a dead list", func(p *api.Pool) { p.Lines[2].Dead = every(241) }},
	}
	for i, x := range wrongPtrs() {
		all = append(all, turn{fmt.Sprint("a wrong root of a line ", i), func(p *api.Pool) { p.Lines[i%5].Root = x }})
		all = append(all, turn{fmt.Sprint("a wrong pointer in Dead ", i), func(p *api.Pool) { p.Lines[i%5].Dead = []api.Ptr{x} }})
	}
	return all
}

func wrongChanges() []turn {
	all := []turn{
		{"a change twice", func(p *api.Pool) { p.Changes[1] = p.Changes[0] }},
		{"changes whose Index falls", func(p *api.Pool) { p.Changes[0], p.Changes[1] = p.Changes[1], p.Changes[0] }},
		{"changes whose Obj falls", func(p *api.Pool) { p.Changes[5], p.Changes[6] = p.Changes[6], p.Changes[5] }},
		{"changes whose Set falls", func(p *api.Pool) { p.Changes[2], p.Changes[3] = p.Changes[3], p.Changes[2] }},
		{"all changes fall", func(p *api.Pool) { slices.Reverse(p.Changes) }},
		{"a change of a snapshot", func(p *api.Pool) { p.Changes = []api.Change{{Set: 2}} }},
		{"a change of none", func(p *api.Pool) { p.Changes = []api.Change{{Set: 3}} }},
		{"a change of nobody", func(p *api.Pool) { p.Changes = []api.Change{{}} }},
		{"changes without lines", func(p *api.Pool) { p.Lines = nil }},
		{"very many changes", func(p *api.Pool) { p.Changes = make([]api.Change, 1<<16) }},
	}
	one := func(what string, c api.Change) {
		all = append(all, turn{"a change, " + what, func(p *api.Pool) { p.Changes = []api.Change{c} }})
	}
	for _, n := range []int{-1, 16, 17, 256, math.MaxInt, math.MinInt} {
		one(fmt.Sprint("Obj ", n), api.Change{Set: 1, Obj: n})
		one(fmt.Sprint("Obj of a head ", n), api.Change{Set: 1, Obj: n, Index: head})
		one(fmt.Sprint("Index ", n), api.Change{Set: 1, Index: n})
		one(fmt.Sprint("Index with a Kind ", n), api.Change{Set: 1, Index: n, Kind: 1})
	}
	for _, kind := range []uint8{8, 9, 16, 255} {
		one(fmt.Sprint("Kind ", kind), api.Change{Set: 1, Index: head, Kind: kind})
	}
	for _, n := range []int{-1, 256, 257, math.MaxInt, math.MinInt} {
		one(fmt.Sprint("Links ", n), api.Change{Set: 1, Index: head, Kind: 1, Links: n})
	}
	for _, n := range []int{-1, 3841, 65536, math.MaxInt, math.MinInt} {
		one(fmt.Sprint("Size ", n), api.Change{Set: 1, Index: head, Kind: 1, Size: n})
	}
	one("Kind 0 with Links", api.Change{Set: 1, Index: head, Links: 1})
	one("Kind 0 with a Size", api.Change{Set: 1, Index: head, Size: 1})
	one("a head with Data", api.Change{Set: 1, Index: head, Kind: 1, Data: text(1)})
	one("a head with a byte", api.Change{Set: 1, Index: head, Kind: 1, Data: []byte{0}})
	one("a head that was laid", api.Change{Set: 1, Index: head, Kind: 1, Laid: api.Ptr{At: 20, Birth: 1}})
	for index := range 15 {
		one(fmt.Sprint("place ", index, " with a Kind"), api.Change{Set: 1, Index: index, Kind: 1})
		one(fmt.Sprint("place ", index, " with Links"), api.Change{Set: 1, Index: index, Links: 1})
		one(fmt.Sprint("place ", index, " with a Size"), api.Change{Set: 1, Index: index, Size: 1})
		one(fmt.Sprint("place ", index, " with Links below 0"), api.Change{Set: 1, Index: index, Links: -1})
	}
	for _, long := range []int{1, 16, 128, 255} {
		one(fmt.Sprint("Data of ", long), api.Change{Set: 1, Data: text(1)[:long]})
		one(fmt.Sprint("Data of ", long, " that was laid"), api.Change{Set: 1, Data: text(1)[:long], Laid: api.Ptr{At: 20, Birth: 1}})
	}
	one("Data of 257", api.Change{Set: 1, Data: append(text(1), 0)})
	one("Data of 512", api.Change{Set: 1, Data: append(text(1), text(2)...)})
	for i, x := range wrongPtrs() {
		one(fmt.Sprint("a wrong Laid ", i), api.Change{Set: 1, Laid: x})
		one(fmt.Sprint("a wrong Laid with Data ", i), api.Change{Set: 1, Data: text(1), Laid: x})
	}
	return all
}

func TestP171Check(t *testing.T) {
	for _, x := range right() {
		p := grown()
		x.of(&p)
		wantCheck(t, x.what, p, api.OK)
	}
	for _, x := range wrong() {
		p := grown()
		x.of(&p)
		wantCheck(t, x.what, p, api.ErrBad)
	}
	wantCheck(t, "New", txg.New(), api.OK)
	wantCheck(t, "no pool", api.Pool{}, api.ErrBad)
}

// Each pointer of a line, of a dead list and of a change, about its edges.
func TestP171CheckPointers(t *testing.T) {
	for at := -2; at < 260; at++ {
		for _, birth := range []uint32{0, 1, mostTxg, 1 << 24} {
			x, want, wantDead := api.Ptr{At: at, Birth: birth, Sum: uint32(at)}, api.ErrBad, api.ErrBad
			if within(at, 12, 255) && birth >= 1 && birth <= mostTxg {
				want, wantDead = api.OK, api.OK
			} else if x == none {
				want = api.OK
			}
			what := fmt.Sprint(at, " born in ", birth)
			p := grown()
			p.Lines[0].Root = x
			wantCheck(t, "root "+what, p, want)
			p = grown()
			p.Changes[3].Laid = x
			wantCheck(t, "laid "+what, p, want)
			p = grown()
			p.Lines[4].Dead = []api.Ptr{x}
			wantCheck(t, "dead "+what, p, wantDead)
			p = grown()
			p.Root = x
			wantCheck(t, "the pool's root "+what, p, wantDead)
		}
	}
}

// All pairs of places of changes: just those that rise may be.
func TestP171CheckRises(t *testing.T) {
	p := grown()
	places := []api.Change{}
	for _, set := range []int{1, 6, 8} {
		for _, obj := range []int{0, 1, 14, 15} {
			for _, index := range []int{0, 1, 14, 15} {
				places = append(places, api.Change{Set: set, Obj: obj, Index: index})
			}
		}
	}
	for i, a := range places {
		for j, b := range places {
			want := api.ErrBad
			if i < j {
				want = api.OK
			}
			p.Changes = []api.Change{a, b}
			wantCheck(t, fmt.Sprint(a, b), p, want)
		}
	}
}

// Pools of which several things are turned by lot, beside the plain reading.
func TestP171CheckByLot(t *testing.T) {
	c := chances(1)
	all := append(right(), wrong()...)
	may := 0
	for range 4000 {
		p := grown()
		what := ""
		for range 1 + c.of(3) {
			x := all[c.of(len(right()))]
			if c.of(4) == 0 {
				x = all[c.of(len(all))]
			}
			what += x.what + "; "
			func() {
				// What one turn has taken away, another one can't reach.
				defer func() { _ = recover() }()
				x.of(&p)
			}()
		}
		want := api.ErrBad
		if plainMayBe(p) {
			want = api.OK
			may++
		}
		wantCheck(t, what, p, want)
	}
	if may < 500 || may > 3500 {
		t.Errorf("%d may be", may)
	}
}

func TestP171New(t *testing.T) {
	p := txg.New()
	var blocks [][]byte
	for range 256 {
		blocks = append(blocks, make([]byte, 256))
	}
	space := slices.Concat(bytes.Repeat([]byte{used}, 12), make([]byte, 244))
	want := api.Pool{Store: api.Store{Disk: api.Disk{Blocks: blocks}, Space: space, Epoch: 1}, Keys: make([][]byte, 8), Loaded: make([][]byte, 8), NextId: 1, NextGuid: 1}
	if d := differ(p, want); d != "" {
		t.Error(d)
	}
	if len(p.Keys) != 8 || len(p.Loaded) != 8 {
		t.Errorf("%d keys, %d loaded", len(p.Keys), len(p.Loaded))
	}
	if d := differ(txg.New(), want); d != "" {
		t.Error("once more: ", d)
	}
}

// leaves calls do with each field, and each element of a list, that x has, however deep: numbers alone, and lists.
func leaves(path string, x reflect.Value, do func(path string, x reflect.Value)) {
	switch x.Kind() {
	case reflect.Struct:
		for i := range x.NumField() {
			leaves(path+"."+x.Type().Field(i).Name, x.Field(i), do)
		}
	case reflect.Slice:
		do(path, x)
		for i := range x.Len() {
			// Of long lists the edges, and some between them.
			if i < 20 || i == x.Len()-1 || i%61 == 0 {
				leaves(fmt.Sprint(path, "[", i, "]"), x.Index(i), do)
			}
		}
	default:
		do(path, x)
	}
}

// Each field of a pool, and each element of its lists, however deep, counts.
func TestP171Same(t *testing.T) {
	p, q := grown(), grown()
	if !txg.Same(p, q) || !txg.Same(q, p) || !txg.Same(p, p) {
		t.Fatal("a pool is not the same as itself")
	}
	many := 0
	unlike := func(path string) {
		many++
		if txg.Same(p, q) || txg.Same(q, p) {
			t.Errorf("%s counts for nothing", path)
		}
	}
	leaves("", reflect.ValueOf(&p).Elem(), func(path string, x reflect.Value) {
		was := reflect.ValueOf(x.Interface())
		switch x.Kind() {
		case reflect.Slice:
			more := reflect.Append(x.Slice3(0, x.Len(), x.Len()), reflect.Zero(x.Type().Elem()))
			x.Set(more)
			unlike(path + ", one more")
			x.Set(was)
			if x.Len() > 0 {
				x.Set(x.Slice(0, x.Len()-1))
				unlike(path + ", one less")
				x.Set(was)
				x.Set(reflect.Zero(x.Type()))
				unlike(path + ", none")
			}
		case reflect.Int:
			x.SetInt(x.Int() ^ 1)
			unlike(path)
			x.SetInt(was.Int() ^ 1<<40)
			unlike(path + ", far away")
		default:
			x.SetUint(x.Uint() ^ 1)
			unlike(path)
			x.SetUint(was.Uint() ^ 1<<(x.Type().Bits()-1))
			unlike(path + ", by its highest bit")
		}
		x.Set(was)
	})
	if many < 2000 || !txg.Same(p, q) {
		t.Errorf("%d were turned; the same at the end: %t", many, txg.Same(p, q))
	}
}

// A list without elements may be nil or not.
func TestP171SameWithoutElements(t *testing.T) {
	p, q := api.Pool{}, api.Pool{
		Store: api.Store{Disk: api.Disk{Blocks: [][]byte{}, Waits: []api.Write{}}, Space: []byte{}},
		Meta:  []int{}, Lines: []api.Line{}, Keys: [][]byte{}, Loaded: [][]byte{}, Changes: []api.Change{},
	}
	if !txg.Same(p, q) || !txg.Same(q, p) {
		t.Error("without elements")
	}
	p = api.Pool{Lines: []api.Line{{}}, Keys: [][]byte{nil, {}}, Loaded: [][]byte{{}, nil}, Changes: []api.Change{{}}, Store: api.Store{Disk: api.Disk{Blocks: [][]byte{nil}, Waits: []api.Write{{}}}}}
	q = api.Pool{Lines: []api.Line{{Dead: []api.Ptr{}}}, Keys: [][]byte{{}, nil}, Loaded: [][]byte{nil, {}}, Changes: []api.Change{{Data: []byte{}}}, Store: api.Store{Disk: api.Disk{Blocks: [][]byte{{}}, Waits: []api.Write{{Data: []byte{}}}}}}
	if !txg.Same(p, q) || !txg.Same(q, p) {
		t.Error("within")
	}
}

// Pools that may not be are held against each other, and copied, too.
func TestP171Twin(t *testing.T) {
	turns := append(right(), wrong()...)
	for _, x := range append(turns, turn{"nothing at all", func(p *api.Pool) { *p = api.Pool{} }}) {
		p := grown()
		x.of(&p)
		q := txg.Twin(p)
		if d := differ(q, slowTwin(p)); d != "" || !txg.Same(p, q) {
			t.Errorf("%s: %s", x.what, d)
		}
	}
}
