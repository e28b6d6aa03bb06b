package set

import (
	"slices"
	"testing"

	"charterhouse/api"
	"charterhouse/obj"
	"charterhouse/ptr"
	"charterhouse/store"
)

// laid is a store with the root of a dataset that has two objects, one of which has data at three places: six pointers in all.
func laid(t *testing.T) (api.Store, api.Ptr) {
	s, row := store.New(), make([]api.Ptr, api.Objects)
	lay := func(b []byte, e api.Errno) (p api.Ptr) {
		t.Helper()
		if e == api.OK {
			s, p, e = store.Lay(s, 3, b)
		}
		if e != api.OK {
			t.Fatal(e)
		}
		return p
	}
	o := api.Object{Kind: api.KindFile, Data: make([]api.Ptr, api.Data)}
	row[4] = lay(obj.Write(o))
	for i := range 3 {
		o.Data[i*7] = api.Ptr{At: 20 + i, Birth: 3}
	}
	row[9] = lay(obj.Write(o))
	return s, lay(ptr.Row(row))
}

// Who has enough leaves the generator wherever it is, with no error; and it may be gone through once more.
func TestYoungOnesAreLeft(t *testing.T) {
	s, root := laid(t)
	all, e := Walk(s, root, 0)
	if e != api.OK || len(all) != 6 {
		t.Fatalf("%v, %d", all, e)
	}
	young, ended := youngOnes(s, root, 0)
	for enough := 1; enough <= len(all); enough++ {
		var l []api.Ptr
		for p := range young {
			if l = append(l, p); len(l) == enough {
				break
			}
		}
		if !slices.Equal(l, all[:enough]) || ended() != api.OK {
			t.Errorf("left behind %d: %v, %d", enough, l, ended())
		}
	}
}

// What is left ahead of what can't be read tells no error; what goes on tells it, behind all that could be.
func TestYoungOnesEnd(t *testing.T) {
	s, root := laid(t)
	l, e := Ptrs(s, root)
	if e != api.OK {
		t.Fatal(e)
	}
	s.Disk.Waits = append(s.Disk.Waits, api.Write{At: l[9].At, Data: make([]byte, api.Size)})
	young, ended := youngOnes(s, root, 0)
	for range young {
		break
	}
	if ended() != api.OK {
		t.Errorf("left: %d", ended())
	}
	if told := slices.Collect(young); !slices.Equal(told, []api.Ptr{root, l[4], l[9]}) || ended() != api.ErrSum {
		t.Errorf("ended: %v, %d", told, ended())
	}
}
