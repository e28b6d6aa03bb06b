package txg

import (
	"cmp"
	"slices"

	"charterhouse/api"
	"charterhouse/dead"
	"charterhouse/ptr"
	"charterhouse/store"
)

// mayBe asks for the store first: only then there is a mark for each block that Meta has.
func mayBe(p api.Pool) bool {
	return store.Check(p.Store) == api.OK &&
		p.Gen <= api.MaxTxg &&
		ptr.Check(p.Root) == api.OK && isThere(p.Root) == (p.Gen > 0) &&
		mayMeta(p.Meta, p.Store.Space) &&
		mayLines(p.Lines) &&
		mayKeys(p.Keys, isWrapped) && mayKeys(p.Loaded, isKey) &&
		mayChanges(p.Changes, p.Lines) &&
		within(p.Logged, 0, api.Logs) &&
		mayNext(p)
}

func within(n, least, most int) bool {
	return n >= least && n <= most
}

func isThere(p api.Ptr) bool {
	return p != api.Ptr{}
}

func mayMeta(meta []int, table []byte) bool {
	for i, at := range meta {
		if !within(at, api.First, api.Blocks-1) || table[at] != api.Used || i > 0 && meta[i-1] >= at {
			return false
		}
	}
	return true
}

// mayLines asks how many there are ahead of what they are: each is held against all.
func mayLines(lines []api.Line) bool {
	if len(lines) > api.MaxLines {
		return false
	}
	for i, l := range lines {
		if i > 0 && lines[i-1].Id >= l.Id || !mayLine(l, lines) {
			return false
		}
	}
	return true
}

func mayLine(l api.Line, all []api.Line) bool {
	return within(l.Id, 1, api.MaxId) &&
		hasOwner(l, all) && hasPrev(l, all) &&
		l.Txg <= api.MaxTxg &&
		within(l.Key, 0, api.Keys-1) &&
		ptr.Check(l.Root) == api.OK && dead.Check(l.Dead) == api.OK
}

func hasOwner(l api.Line, all []api.Line) bool {
	switch l.Kind {
	case api.IsHead:
		return l.Owner == l.Id
	case api.IsSnap:
		return isOf(all, l.Owner, api.IsHead)
	}
	return false
}

// hasPrev also sees to it that no snapshot comes from itself, by however many: each comes from one with a lower Txg.
func hasPrev(l api.Line, all []api.Line) bool {
	if l.Prev == 0 {
		return true
	}
	if !isOf(all, l.Prev, api.IsSnap) {
		return false
	}
	prev, _ := lineOf(all, l.Prev)
	return prev.Key == l.Key && (prev.Txg < l.Txg || prev.Txg == l.Txg && l.Kind == api.IsHead)
}

func lineOf(all []api.Line, id int) (l api.Line, ok bool) {
	i := slices.IndexFunc(all, func(l api.Line) bool { return l.Id == id })
	if i < 0 {
		return api.Line{}, false
	}
	return all[i], true
}

func isOf(all []api.Line, id int, kind uint8) bool {
	l, ok := lineOf(all, id)
	return ok && l.Kind == kind
}

func mayKeys(keys [][]byte, mayBe func(key []byte) bool) bool {
	if len(keys) != api.Keys {
		return false
	}
	return !slices.ContainsFunc(keys, func(key []byte) bool { return len(key) > 0 && !mayBe(key) })
}

// isWrapped is not asked of noughts: they stand for no key, where it is laid.
func isWrapped(key []byte) bool {
	return len(key) == api.WrapSize && !isNought(key)
}

func isKey(key []byte) bool {
	return len(key) == api.KeySize
}

func isNought(b []byte) bool {
	return !slices.ContainsFunc(b, func(one byte) bool { return one != 0 })
}

func mayChanges(changes []api.Change, lines []api.Line) bool {
	for i, c := range changes {
		if i > 0 && !rise(changes[i-1], c) || !isOf(lines, c.Set, api.IsHead) || !mayChange(c) {
			return false
		}
	}
	return true
}

func rise(a, b api.Change) bool {
	return cmp.Or(cmp.Compare(a.Set, b.Set), cmp.Compare(a.Obj, b.Obj), cmp.Compare(a.Index, b.Index)) < 0
}

func mayChange(c api.Change) bool {
	if !within(c.Obj, 0, api.Objects-1) {
		return false
	}
	if c.Index == api.Head {
		return mayHead(c)
	}
	return within(c.Index, 0, api.Data-1) &&
		c.Kind == 0 && c.Links == 0 && c.Size == 0 &&
		(len(c.Data) == 0 || len(c.Data) == api.Size) &&
		ptr.Check(c.Laid) == api.OK
}

func mayHead(c api.Change) bool {
	return c.Kind <= api.MaxKind && within(c.Links, 0, api.MaxLinks) && within(c.Size, 0, api.MaxSize) &&
		(c.Kind > 0 || c.Links == 0 && c.Size == 0) &&
		len(c.Data) == 0 && !isThere(c.Laid)
}

// mayNext asks for an Id, or the one behind them all, also where there are no lines that it would have to be above.
func mayNext(p api.Pool) bool {
	taken := func(l api.Line) bool { return l.Id >= p.NextId || l.Guid >= p.NextGuid }
	return within(p.NextId, 1, api.MaxId+1) && !slices.ContainsFunc(p.Lines, taken)
}
