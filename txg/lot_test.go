package txg_test

import (
	"fmt"
	"testing"

	"charterhouse/api"
	"charterhouse/txg"
)

// Where so many blocks are free as the document names, a sync is done: by numbers of lines, of what they gave up, and of what is changed.
func TestP175Room(t *testing.T) {
	c := chances(1)
	for many := range 17 {
		for _, gone := range []int{0, 1, 15, 16, 17, 33, 60} {
			p := txg.New()
			p.Lines, p.NextId, p.NextGuid = heads(many), many+1, 1
			for i := range p.Lines {
				p.Lines[i].Dead = every(gone * (i % 3) / 2)
			}
			need, _ := room(p)
			enough := c.crowded(p, need)
			if gone == 33 && many%4 == 1 {
				enough = waiting(enough, mostWaits-need)
			}
			wantSync(t, fmt.Sprint(many, " lines, ", gone, " given up"), enough, api.OK)
			wantSync(t, fmt.Sprint(many, " lines, ", gone, " given up, too few"), c.crowded(p, max(1, (many+4)/5)+1), api.ErrFull)
		}
	}
	for what, p := range map[string]api.Pool{"young": young(t), "mixed": mixed(t)} {
		for many := range 17 {
			p.Changes = nil
			for i := range min(many, 15) {
				p.Changes = append(p.Changes, put(2, i))
			}
			if many == 16 {
				p.Changes = append(p.Changes, heading(2, 0), put(4, 0), heading(9, 1))
			}
			need, _ := room(p)
			enough := c.crowded(p, need)
			if many%4 == 3 {
				enough = waiting(enough, mostWaits-need)
			}
			wantSync(t, fmt.Sprint(what, ", ", many, " changes"), enough, api.OK)
		}
	}
}

// Runs by lot: datasets, snapshots, clones and changes, beside the plain reading of the document and plain trees of bytes. W2 and W3, as far as P17.5 speaks of them, are asked behind each sync.
func TestP175ByLot(t *testing.T) {
	all := map[string]int{}
	for seed := range 16 {
		h := newHouse(t, seed)
		if seed%4 == 1 {
			// So there come to be too few numbers to seal by.
			h.p.Store.Count = mostCount - 15
		}
		h.run(120)
		for what, n := range h.seen {
			all[what] += n
		}
	}
	for what, least := range map[string]int{
		"head": 50, "snap": 50, "clone": 40, "enough": 100, "enough writes": 5, "too few: 9": 50,
		"error 0": 400, "error 132": 1, "without keys: 0": 30, "without keys: 200": 30,
	} {
		if all[what] < least {
			t.Errorf("%s: %d times", what, all[what])
		}
	}
}
