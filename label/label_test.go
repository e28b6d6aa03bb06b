package label_test

import (
	"bytes"
	"fmt"
	"math/bits"
	"runtime"
	"slices"
	"strings"
	"sync"
	"testing"

	"charterhouse/api"
	"charterhouse/dev"
	"charterhouse/label"
)

// of is a label that may be, another one for each gen.
func of(gen uint32) api.Label {
	return api.Label{Gen: gen, Epoch: gen%65535 + 1, Root: api.Ptr{At: 12 + int(gen%244), Birth: gen, Iv: gen * 3, Tag: gen * 5, Sum: gen * 7}}
}

// with is of(5), turned.
func with(turn func(l *api.Label)) api.Label {
	l := of(5)
	turn(&l)
	return l
}

// labels are those that may be: at the edges of each of their numbers, and with each bit of them.
func labels() []api.Label {
	one := api.Label{Gen: 1, Epoch: 1, Root: api.Ptr{At: 12, Birth: 1}}
	all := []api.Label{one, of(2), of(3), of(1<<24 - 1), {Gen: 1<<24 - 1, Epoch: 65535, Root: api.Ptr{At: 255, Birth: 1<<24 - 1, Iv: 1<<32 - 1, Tag: 1<<32 - 1, Sum: 1<<32 - 1}}}
	for bit := range 32 {
		l := one
		l.Root.Iv = 1 << bit
		all = append(all, l, with(func(l *api.Label) { l.Root.Tag = 1 << bit }), with(func(l *api.Label) { l.Root.Sum = 1 << bit }))
		if bit < 24 {
			all = append(all, of(1<<bit), with(func(l *api.Label) { l.Root.Birth = 1 << bit }))
		}
		if bit < 16 {
			all = append(all, with(func(l *api.Label) { l.Epoch = 1 << bit }))
		}
	}
	for at := 12; at < 256; at += 27 {
		all = append(all, with(func(l *api.Label) { l.Root.At = at }))
	}
	// The root may be older than the label, or younger.
	return append(all, with(func(l *api.Label) { l.Root.Birth = 4 }), with(func(l *api.Label) { l.Root.Birth = 6 }))
}

// wrongLabels are those that may not be: by one number each, and by several.
func wrongLabels() []api.Label {
	all := []api.Label{{}, {Gen: 1}, {Gen: 1, Epoch: 1}, {Root: of(5).Root}, {Gen: 1 << 31, Epoch: 1 << 31, Root: api.Ptr{At: -1}}}
	for _, gen := range []uint32{0, 1 << 24, 1<<24 + 1, 1<<24 + 5, 1 << 25, 1 << 31, 1<<31 + 5, 1<<32 - 1} {
		all = append(all, with(func(l *api.Label) { l.Gen = gen }))
	}
	for _, epoch := range []uint32{0, 1 << 16, 1<<16 + 1, 1<<16 + 6, 1 << 24, 1 << 31, 1<<32 - 1} {
		all = append(all, with(func(l *api.Label) { l.Epoch = epoch }))
	}
	for _, at := range []int{0, 1, 3, 4, 11, 256, 268, -1, -244, 1 << 32, 1<<32 + 20} {
		all = append(all, with(func(l *api.Label) { l.Root.At = at }))
	}
	for _, birth := range []uint32{0, 1 << 24, 1<<24 + 5, 1 << 31, 1<<32 - 1} {
		all = append(all, with(func(l *api.Label) { l.Root.Birth = birth }))
	}
	for _, root := range []api.Ptr{{}, {At: 12}, {Birth: 1}, {Iv: 1}, {Tag: 1}, {Sum: 1}, {At: 11, Birth: 1}} {
		all = append(all, with(func(l *api.Label) { l.Root = root }))
	}
	return all
}

// slowTurn turns four words, as chapter 2 says it, n times.
func slowTurn(x [4]uint32, n int) [4]uint32 {
	for range n {
		for _, by := range [][2]int{{15, 11}, {9, 6}} {
			x[0] += x[1]
			x[3] = bits.RotateLeft32(x[3]^x[0], by[0])
			x[2] += x[3]
			x[1] = bits.RotateLeft32(x[1]^x[2], by[1])
		}
	}
	return x
}

func slowNumber(b []byte) uint32 {
	return uint32(b[0]) + uint32(b[1])*256 + uint32(b[2])*65536 + uint32(b[3])*16777216
}

func slowSum(b []byte) uint32 {
	x, text := [4]uint32{1, 2, 3, 4}, append(bytes.Clone(b), 1)
	for len(text)%8 != 0 {
		text = append(text, 0)
	}
	for ; len(text) > 0; text = text[8:] {
		x[0] ^= slowNumber(text)
		x[2] ^= slowNumber(text[4:])
		x = slowTurn(x, 4)
	}
	x[1] ^= uint32(len(b))
	return slowTurn(x, 8)[0]
}

func slowBytes(n uint32) []byte {
	return []byte{byte(n), byte(n / 256), byte(n / 65536), byte(n / 16777216)}
}

// slowSummed are the bytes of a label, whether it may be or not, ahead of their sum.
func slowSummed(l api.Label) []byte {
	return slices.Concat([]byte{67}, slowBytes(l.Gen), slowBytes(l.Epoch), []byte{byte(l.Root.At)}, slowBytes(l.Root.Birth)[:3], slowBytes(l.Root.Iv), slowBytes(l.Root.Tag), slowBytes(l.Root.Sum))
}

// closed is a block of summed and its sum.
func closed(summed []byte) []byte {
	b := slices.Concat(summed, slowBytes(slowSum(summed)))
	return slices.Concat(b, make([]byte, 256-len(b)))
}

func slowBlock(l api.Label) []byte {
	return closed(slowSummed(l))
}

// text is what another block may hold.
func text(n int) []byte {
	b := make([]byte, 256)
	for i := range b {
		b[i] = byte(i*37 + n*11)
	}
	return b
}

// disk is made without package dev: its slots hold noughts, all others texts, and of room to spare there is some.
func disk(waits ...api.Write) api.Disk {
	d := api.Disk{}
	for n := range 258 {
		b := make([]byte, 256)
		if n >= 4 {
			b = text(n)
		}
		d.Blocks = append(d.Blocks, slices.Concat(b, text(1))[:256])
	}
	d.Blocks = d.Blocks[:256]
	for i, w := range waits {
		d.Waits = append(d.Waits, api.Write{At: w.At, Data: slices.Concat(w.Data, text(i))[:256]})
	}
	d.Waits = slices.Concat(d.Waits, []api.Write{{At: 3, Data: text(5)}})[:len(waits)]
	return d
}

// write is the write of a label's block to its slot.
func write(l api.Label) api.Write {
	return api.Write{At: int(l.Gen % 4), Data: slowBlock(l)}
}

// lasting is a disk on which those blocks last in their slots.
func lasting(ls ...api.Label) api.Disk {
	d := disk()
	for _, l := range ls {
		d.Blocks[l.Gen%4] = slowBlock(l)
	}
	return d
}

// waiting is a disk on which those blocks wait for their slots.
func waiting(ls ...api.Label) api.Disk {
	var waits []api.Write
	for _, l := range ls {
		waits = append(waits, write(l))
	}
	return disk(waits...)
}

// alone is a disk that has b at at.
func alone(at int, b []byte) api.Disk {
	d := disk()
	d.Blocks[at] = bytes.Clone(b)
	return d
}

// full is a disk on which n writes wait, none of them for a slot.
func full(n int) api.Disk {
	d := disk()
	d.Waits = nil
	for i := range n {
		d.Waits = append(d.Waits, api.Write{At: 4 + i%252, Data: text(i)})
	}
	return d
}

// wrongDisks are those that may not be.
func wrongDisks() map[string]api.Disk {
	l := lasting(of(5), of(6))
	wrong := map[string]api.Disk{
		"nothing":          {},
		"one block less":   {Blocks: l.Blocks[:255]},
		"one block more":   {Blocks: append(lasting(of(5)).Blocks, text(1))},
		"slots alone":      {Blocks: l.Blocks[:4]},
		"empty blocks":     {Blocks: make([][]byte, 256)},
		"one write more":   full(4097),
		"a write to 256":   disk(write(of(5)), api.Write{At: 256, Data: text(1)}),
		"a write to -1":    disk(write(of(5)), api.Write{At: -1, Data: text(1)}),
		"a write of 255":   {Blocks: l.Blocks, Waits: []api.Write{{At: 1, Data: text(1)[:255]}}},
		"a write of 257":   {Blocks: l.Blocks, Waits: []api.Write{{At: 9, Data: append(text(1), 0)}}},
		"a write of none":  {Blocks: l.Blocks, Waits: []api.Write{write(of(7)), {}}},
		"the writes alone": {Waits: waiting(of(5)).Waits},
	}
	for _, at := range []int{0, 1, 2, 3, 4, 255} {
		short, long := lasting(of(5), of(6)), lasting(of(5), of(6))
		short.Blocks[at] = short.Blocks[at][:29]
		long.Blocks[at] = append(bytes.Clone(long.Blocks[at]), 0)
		wrong[fmt.Sprint("short block ", at)], wrong[fmt.Sprint("long block ", at)] = short, long
	}
	return wrong
}

// whole tells all that a disk has, the room to spare behind its lists too.
func whole(d api.Disk) string {
	var all strings.Builder
	fmt.Fprintln(&all, len(d.Blocks), len(d.Waits))
	for _, b := range d.Blocks[:cap(d.Blocks)] {
		fmt.Fprintln(&all, len(b), string(b[:cap(b)]))
	}
	for _, w := range d.Waits[:cap(d.Waits)] {
		fmt.Fprintln(&all, w.At, len(w.Data), string(w.Data[:cap(w.Data)]))
	}
	return all.String()
}

func sameWrite(a, b api.Write) bool {
	return a.At == b.At && bytes.Equal(a.Data, b.Data)
}

func sameDisk(a, b api.Disk) bool {
	return slices.EqualFunc(a.Blocks, b.Blocks, bytes.Equal) && slices.EqualFunc(a.Waits, b.Waits, sameWrite)
}

// spoil turns all that a disk has, the room to spare behind its lists too.
func spoil(d api.Disk) {
	for _, b := range d.Blocks[:cap(d.Blocks)] {
		stamp(b)
	}
	for _, w := range d.Waits[:cap(d.Waits)] {
		stamp(w.Data)
	}
	clear(d.Blocks[:cap(d.Blocks)])
	clear(d.Waits[:cap(d.Waits)])
}

func stamp(b []byte) {
	for i := range b[:cap(b)] {
		b[:cap(b)][i] ^= 255
	}
}

func wantSlot(t *testing.T, gen uint32, want int) {
	t.Helper()
	if slot := label.Slot(gen); slot != want {
		t.Errorf("Slot(%d) = %d; want %d", gen, slot, want)
	}
}

// put is asked for labels that may be, and disks on which another write may wait.
func put(t *testing.T, d api.Disk, l api.Label) api.Disk {
	t.Helper()
	out, e := label.Put(d, l)
	if e != api.OK {
		t.Fatalf("Put(.., %v): %d", l, e)
	}
	return out
}

// wantPut asks that d is answered as it is, but for the write behind all others.
func wantPut(t *testing.T, d api.Disk, l api.Label) {
	t.Helper()
	want := api.Disk{Blocks: d.Blocks, Waits: slices.Concat(d.Waits, []api.Write{write(l)})}
	if out, e := label.Put(d, l); e != api.OK || !sameDisk(out, want) {
		t.Errorf("Put(.., %v): %d, %d writes wait; want %d, the last one %v", l, e, len(out.Waits), len(want.Waits), write(l))
	}
}

// wantNoPut asks that beside the error all is zero.
func wantNoPut(t *testing.T, what string, d api.Disk, l api.Label, want api.Errno) {
	t.Helper()
	if out, e := label.Put(d, l); e != want || len(out.Blocks) != 0 || len(out.Waits) != 0 {
		t.Errorf("%s: Put(.., %v): %d, %d blocks, %d writes; want %d", what, l, e, len(out.Blocks), len(out.Waits), want)
	}
}

func wantFind(t *testing.T, what string, d api.Disk, want ...api.Label) {
	t.Helper()
	if l, e := label.Find(d); e != api.OK || !slices.Equal(l, want) {
		t.Errorf("%s: Find = %v, %d; want %v", what, l, e, want)
	}
}

func TestP111Slot(t *testing.T) {
	for gen := range uint32(1000) {
		wantSlot(t, gen, []int{0, 1, 2, 3}[gen%4])
	}
	for gen, want := range map[uint32]int{1<<24 - 1: 3, 1 << 24: 0, 1<<24 + 1: 1, 1<<31 - 1: 3, 1 << 31: 0, 1<<31 + 1: 1, 1<<31 + 2: 2, 1<<32 - 4: 0, 1<<32 - 3: 1, 1<<32 - 2: 2, 1<<32 - 1: 3} {
		wantSlot(t, gen, want)
	}
}

// The bytes of some, as they were reckoned apart.
func TestP111PutByHand(t *testing.T) {
	for _, c := range []struct {
		l    api.Label
		slot int
		want []byte
	}{
		{api.Label{Gen: 1, Epoch: 1, Root: api.Ptr{At: 12, Birth: 1}}, 1, []byte{67, 1, 0, 0, 0, 1, 0, 0, 0, 12, 1, 0, 0, 0, 0, 0, 0, 0, 0, 0, 0, 0, 0, 0, 0, 114, 143, 220, 180}},
		{api.Label{Gen: 5, Epoch: 1, Root: api.Ptr{At: 20, Birth: 1}}, 1, []byte{67, 5, 0, 0, 0, 1, 0, 0, 0, 20, 1, 0, 0, 0, 0, 0, 0, 0, 0, 0, 0, 0, 0, 0, 0, 65, 194, 179, 225}},
		{api.Label{Gen: 4, Epoch: 256, Root: api.Ptr{At: 12, Birth: 65536, Sum: 1 << 31}}, 0, []byte{67, 4, 0, 0, 0, 0, 1, 0, 0, 12, 0, 0, 1, 0, 0, 0, 0, 0, 0, 0, 0, 0, 0, 0, 128, 168, 169, 124, 41}},
		{api.Label{Gen: 0x030201, Epoch: 0x0504, Root: api.Ptr{At: 201, Birth: 0x080706, Iv: 0x0c0b0a09, Tag: 0x100f0e0d, Sum: 0x14131211}}, 1, []byte{67, 1, 2, 3, 0, 4, 5, 0, 0, 201, 6, 7, 8, 9, 10, 11, 12, 13, 14, 15, 16, 17, 18, 19, 20, 75, 131, 172, 42}},
		{api.Label{Gen: 1<<24 - 1, Epoch: 65535, Root: api.Ptr{At: 255, Birth: 1<<24 - 1, Iv: 1<<32 - 1, Tag: 1<<32 - 1, Sum: 1<<32 - 1}}, 3, []byte{67, 255, 255, 255, 0, 255, 255, 0, 0, 255, 255, 255, 255, 255, 255, 255, 255, 255, 255, 255, 255, 255, 255, 255, 255, 222, 221, 221, 108}},
	} {
		block := append(c.want, make([]byte, 227)...)
		d := put(t, dev.New(), c.l)
		if len(d.Waits) != 1 || !sameWrite(d.Waits[0], api.Write{At: c.slot, Data: block}) {
			t.Errorf("Put(.., %v): %v wait; want %d, %d", c.l, d.Waits, c.slot, block)
		}
		wantFind(t, "by hand", alone(c.slot, block), c.l)
	}
}

func TestP111Put(t *testing.T) {
	for _, l := range labels() {
		wantPut(t, disk(), l)
		wantPut(t, lasting(of(4), of(5), of(6), of(7)), l)
		wantPut(t, waiting(of(4), of(5), l, of(6), of(7), l), l)
	}
}

// It waits, and does not last yet.
func TestP111PutWaits(t *testing.T) {
	d, e := dev.Crash(put(t, disk(), of(5)), []bool{false})
	if e != api.OK || !sameDisk(d, disk()) {
		t.Errorf("a label that was lost has left something: %d", e)
	}
}

func TestP111PutWrong(t *testing.T) {
	for i, l := range wrongLabels() {
		wantNoPut(t, fmt.Sprint("wrong label ", i), disk(), l, api.ErrBad)
		wantNoPut(t, fmt.Sprint("wrong label ", i), lasting(of(5)), l, api.ErrBad)
	}
	for what, d := range wrongDisks() {
		wantNoPut(t, what, d, of(5), api.ErrBad)
		wantNoPut(t, what, d, api.Label{}, api.ErrBad)
	}
}

// Whether a label may be is asked ahead of whether there is room.
func TestP111PutFull(t *testing.T) {
	wantPut(t, full(4094), of(5))
	wantPut(t, full(4095), of(5))
	wantNoPut(t, "no room", full(4096), of(5), api.ErrFull)
	wantNoPut(t, "no room", put(t, full(4095), of(5)), of(6), api.ErrFull)
	for i, l := range wrongLabels() {
		wantNoPut(t, fmt.Sprint("no room, wrong label ", i), full(4096), l, api.ErrBad)
	}
	wantNoPut(t, "one write too many", full(4097), of(5), api.ErrBad)
}

func TestP112FindNone(t *testing.T) {
	wantFind(t, "New", dev.New())
	wantFind(t, "texts", disk())
	d := disk()
	for slot := range 4 {
		d.Blocks[slot] = text(slot)
	}
	wantFind(t, "texts in slots", d)
	for slot := range 4 {
		d.Blocks[slot] = bytes.Repeat([]byte{67}, 256)
	}
	wantFind(t, "67s", d)
	for slot := range 4 {
		d.Blocks[slot] = bytes.Repeat([]byte{255}, 256)
	}
	wantFind(t, "255s", d)
}

func TestP112FindOne(t *testing.T) {
	for _, l := range labels() {
		wantFind(t, "one that lasts", lasting(l), l)
		wantFind(t, "one that waits", waiting(l), l)
		wantFind(t, "one that was put", put(t, disk(), l), l)
	}
}

// The greatest Gen is first, whichever slot it is in, and all are told.
func TestP112FindOrder(t *testing.T) {
	wantFind(t, "slots rise", lasting(of(4), of(5), of(6), of(7)), of(7), of(6), of(5), of(4))
	for _, gens := range [][4]uint32{{4, 5, 6, 7}, {8, 5, 6, 7}, {8, 9, 6, 7}, {8, 9, 10, 7}, {4, 1001, 502, 255}, {256, 255, 257, 258}, {1<<24 - 4, 1, 65538, 259}, {4, 1<<24 - 3, 2, 1<<24 - 1}, {1 << 23, 1<<23 - 3, 1<<23 + 2, 1<<23 - 1}} {
		for some := range 16 {
			var in, want []api.Label
			for i, gen := range gens {
				if some>>i&1 == 1 {
					in = append(in, of(gen))
				}
			}
			left := slices.Clone(in)
			for len(left) > 0 {
				best := 0
				for i, l := range left {
					if l.Gen > left[best].Gen {
						best = i
					}
				}
				want = append(want, left[best])
				left = slices.Delete(left, best, best+1)
			}
			wantFind(t, fmt.Sprint(gens, some, " last"), lasting(in...), want...)
			slices.Reverse(in)
			wantFind(t, fmt.Sprint(gens, some, " wait"), waiting(in...), want...)
		}
	}
	// By Gen alone: neither Epoch nor Root has a say.
	a, b := of(6), of(7)
	a.Epoch, a.Root = 65535, api.Ptr{At: 255, Birth: 1<<24 - 1, Iv: 9, Tag: 9, Sum: 9}
	b.Epoch, b.Root = 1, api.Ptr{At: 12, Birth: 1}
	wantFind(t, "epochs fall", lasting(a, b), b, a)
}

// A block counts in its slot alone.
func TestP112FindElsewhere(t *testing.T) {
	for gen := range uint32(12) {
		l := of(gen + 1)
		for at := range 256 {
			if at == int(l.Gen%4) {
				wantFind(t, "in its slot", alone(at, slowBlock(l)), l)
			} else if at < 16 || at > 250 || at%29 == 0 {
				wantFind(t, fmt.Sprintf("Gen %d at %d", l.Gen, at), alone(at, slowBlock(l)))
				wantFind(t, fmt.Sprintf("Gen %d waits for %d", l.Gen, at), disk(api.Write{At: at, Data: slowBlock(l)}))
			}
		}
	}
	d := disk()
	for slot := range 4 {
		d.Blocks[slot] = slowBlock(of(6))
	}
	wantFind(t, "one in all slots", d, of(6))
}

// What is seen counts: the last one of those that wait, and only where none does what lasts.
func TestP112FindIsSeen(t *testing.T) {
	d := lasting(of(4), of(5), of(6))
	d.Waits = []api.Write{write(of(9))}
	wantFind(t, "one over another one", d, of(9), of(6), of(4))
	d.Waits = []api.Write{write(of(9)), write(of(1))}
	wantFind(t, "two over another one", d, of(6), of(4), of(1))
	d.Waits = []api.Write{{At: 1, Data: make([]byte, 256)}}
	wantFind(t, "noughts over one", d, of(6), of(4))
	d.Waits = []api.Write{write(of(9)), {At: 1, Data: text(1)}, {At: 5, Data: slowBlock(of(9))}}
	wantFind(t, "a text over two", d, of(6), of(4))
	d.Waits = []api.Write{{At: 1, Data: text(1)}, write(of(9))}
	wantFind(t, "one over a text", d, of(9), of(6), of(4))
	d = full(4096)
	for i, gen := range []uint32{7, 9, 13} {
		d.Waits[1000*i] = write(of(gen))
	}
	wantFind(t, "among 4,096 writes", d, of(13), of(7))
	d.Waits[4095] = write(of(3))
	wantFind(t, "the last one of 4,096 writes", d, of(13), of(3))
}

// Each byte counts: what is summed, the sum, and the noughts behind it.
func TestP112FindTurned(t *testing.T) {
	for _, l := range []api.Label{of(5), {Gen: 1, Epoch: 1, Root: api.Ptr{At: 12, Birth: 1}}, of(1<<24 - 1)} {
		d := lasting(l, of(4))
		block := d.Blocks[l.Gen%4]
		for byt := range 256 {
			for _, by := range turns(byt) {
				block[byt] ^= by
				wantFind(t, fmt.Sprintf("%v, byte %d turned by %d", l, byt, by), d, of(4))
				block[byt] ^= by
			}
		}
		if found, _ := label.Find(d); !slices.Contains(found, l) {
			t.Errorf("%v, turned back: Find = %v", l, found)
		}
	}
}

// turns are by what a byte of a block is turned: by all for some, by each bit for all.
func turns(byt int) []byte {
	var all []byte
	for bit := range 8 {
		all = append(all, 1<<bit)
	}
	if byt < 32 || byt == 255 {
		for by := 1; by < 256; by++ {
			all = append(all, byte(by))
		}
	}
	return append(all, 255, 67)
}

// Bytes of labels that may not be are no label's, though their sum is right.
func TestP112FindWrongLabels(t *testing.T) {
	for i, l := range wrongLabels() {
		if l.Root.At < 0 || l.Root.At > 255 || l.Root.Birth >= 1<<24 {
			continue // They have no bytes of their own.
		}
		for slot := range 4 {
			wantFind(t, fmt.Sprintf("wrong label %d in %d", i, slot), alone(slot, slowBlock(l)))
		}
	}
	for _, first := range []byte{0, 1, 66, 68, 3, 195, 255} {
		b := slowSummed(of(5))
		b[0] = first
		wantFind(t, fmt.Sprint("first byte ", first), alone(1, closed(b)))
	}
}

// The sum is that of the 25 bytes ahead of it, no others, and stands just behind them, its lowest byte first.
func TestP112FindWrongSums(t *testing.T) {
	summed := slowSummed(of(5))
	lay := func(sum uint32) []byte {
		return slices.Concat(summed, slowBytes(sum), make([]byte, 227))
	}
	wantFind(t, "its sum", alone(1, lay(slowSum(summed))), of(5))
	for what, sum := range map[string]uint32{
		"none":           0,
		"one more":       slowSum(summed) + 1,
		"turned round":   bits.ReverseBytes32(slowSum(summed)),
		"complement":     ^slowSum(summed),
		"24 bytes":       slowSum(summed[:24]),
		"without first":  slowSum(summed[1:]),
		"a nought more":  slowSum(append(bytes.Clone(summed), 0)),
		"four more":      slowSum(append(bytes.Clone(summed), 0, 0, 0, 0)),
		"a whole block":  slowSum(slices.Concat(summed, make([]byte, 231))),
		"of another one": slowSum(slowSummed(of(9))),
	} {
		wantFind(t, what, alone(1, lay(sum)))
	}
	later := slices.Concat(summed, []byte{0}, slowBytes(slowSum(summed)), make([]byte, 226))
	wantFind(t, "one byte later", alone(1, later))
}

func TestP112FindWrongDisks(t *testing.T) {
	for what, d := range wrongDisks() {
		if l, e := label.Find(d); len(l) != 0 || e != api.ErrBad {
			t.Errorf("%s: Find = %v, %d; want %d", what, l, e, api.ErrBad)
		}
	}
}

// Also what lies in the room to spare behind a list stays what it is, and counts for nothing.
func TestP113OnlyReads(t *testing.T) {
	for what, made := range map[string]func() api.Disk{
		"New":  dev.New,
		"last": func() api.Disk { return lasting(of(4), of(5), of(6), of(7)) },
		"wait": func() api.Disk { return waiting(of(4), of(5), of(6), of(9)) },
		"full": func() api.Disk { return full(4096) },
		"wrong": func() api.Disk {
			return disk(api.Write{At: 256, Data: text(1)})
		},
	} {
		d, want := made(), whole(made())
		label.Find(d)
		label.Put(d, of(8))
		label.Put(d, api.Label{})
		if whole(d) != want {
			t.Errorf("%s: a disk is turned", what)
		}
	}
}

// What is answered stays what it is when what was handed in, or another answer, is turned, and the other way round.
func TestP113IsNewMemory(t *testing.T) {
	for what, made := range map[string]func() api.Disk{
		"last": func() api.Disk { return lasting(of(4), of(5), of(6), of(7)) },
		"wait": func() api.Disk { return waiting(of(4), of(5), of(6), of(7)) },
	} {
		d, was := made(), whole(made())
		out, other := put(t, d, of(8)), put(t, d, of(8))
		found, again := [2][]api.Label{}, made()
		found[0], _ = label.Find(d)
		found[1], _ = label.Find(d)
		want := api.Disk{Blocks: again.Blocks, Waits: slices.Concat(again.Waits, []api.Write{write(of(8))})}
		spoil(other)
		clear(found[0][:cap(found[0])])
		if whole(d) != was {
			t.Errorf("%s: an answer shares memory with what is handed in", what)
		}
		spoil(d)
		if !sameDisk(out, want) || !slices.Equal(found[1], []api.Label{of(7), of(6), of(5), of(4)}) {
			t.Errorf("%s: an answer shares memory", what)
		}
		wantApart(t, what, put(t, made(), of(8)))
	}
}

// wantApart asks that no two lists of a disk share memory: each is filled with a number of its own, and has it after all were filled.
func wantApart(t *testing.T, what string, d api.Disk) {
	t.Helper()
	all := slices.Clone(d.Blocks)
	for _, w := range d.Waits {
		all = append(all, w.Data)
	}
	for n, b := range all {
		for i := range b[:cap(b)] {
			b[:cap(b)][i] = byte(n >> (i % 2 * 8))
		}
	}
	for n, b := range all {
		if b[0] != byte(n) || b[1] != byte(n>>8) || b[len(b)-1] != byte(n>>8) {
			t.Errorf("%s: list %d shares memory", what, n)
		}
	}
}

// Of one list for all blocks come as many lists as there are blocks.
func TestP113OneList(t *testing.T) {
	d := api.Disk{Blocks: slices.Repeat([][]byte{slowBlock(of(6))}, 256), Waits: slices.Repeat([]api.Write{{At: 9, Data: slowBlock(of(6))}}, 3)}
	wantFind(t, "one list", d, of(6))
	wantApart(t, "one list", put(t, d, of(7)))
	wantFind(t, "one list", d, of(6))
}

// ring is what should stand: one label at most for each slot.
type ring map[uint32]api.Label

// found are its labels, the greatest Gen first.
func (r ring) found() []api.Label {
	var all []api.Label
	for slot := range uint32(4) {
		if l, ok := r[slot]; ok {
			all = append(all, l)
		}
	}
	slices.SortFunc(all, func(a, b api.Label) int { return int(b.Gen) - int(a.Gen) })
	return all
}

// What was put stands, and is the first one if its Gen is the greatest; only what stood in its slot is gone.
func TestP114PutStands(t *testing.T) {
	d, r := disk(), ring{}
	state, firsts := uint32(1), 0
	for i := range 600 {
		state = state*1664525 + 1013904223
		l := of(state>>8%(1<<24-1) + 1)
		if i%3 == 0 {
			l = of(uint32(i) + 1)
		}
		ahead := r.found()
		d = put(t, d, l)
		r[l.Gen%4] = l
		wantFind(t, fmt.Sprint("step ", i), d, r.found()...)
		if now, _ := label.Find(d); len(ahead) > 0 && l.Gen > ahead[0].Gen {
			firsts++
			if now[0] != l {
				t.Errorf("step %d: %v is not the first one", i, l)
			}
		}
		if i%17 == 16 {
			d, _ = dev.Flush(d)
			wantFind(t, fmt.Sprint("flushed, step ", i), d, r.found()...)
		}
	}
	if firsts < 5 {
		t.Errorf("%d of 600 had the greatest Gen", firsts)
	}
}

// Of four labels of Gens one behind the other all stand, wherever they begin, also up to the greatest Gen.
func TestP114FourStand(t *testing.T) {
	for _, begin := range []uint32{1, 2, 3, 4, 5, 252, 253, 254, 255, 65533, 65535, 1<<23 - 2, 1<<24 - 5, 1<<24 - 4} {
		d := lasting(of(1), of(2), of(3), of(4))
		var want []api.Label
		for gen := begin; gen < begin+4; gen++ {
			d = put(t, d, of(gen))
			want = append([]api.Label{of(gen)}, want...)
		}
		wantFind(t, fmt.Sprint("four from ", begin), d, want...)
		d, _ = dev.Flush(d)
		wantFind(t, fmt.Sprint("four lasting from ", begin), d, want...)
	}
	d := dev.New()
	for gen := uint32(1); gen <= 40; gen++ {
		d = put(t, d, of(gen))
		want := []api.Label{of(gen)}
		for k := gen - 1; k >= 1 && k+4 > gen; k-- {
			want = append(want, of(k))
		}
		wantFind(t, fmt.Sprint("up to ", gen), d, want...)
	}
}

// Power fails, and keeps what it likes: each slot has the last label that was kept, or what lasted there, and nothing half.
func TestP114W2Crash(t *testing.T) {
	for _, gens := range [][]uint32{{8}, {8, 9}, {8, 12, 16}, {8, 9, 10, 11, 12, 13}, {13, 9, 5, 1, 17, 20, 3}} {
		d := lasting(of(4), of(5), of(6), of(7))
		for _, gen := range gens {
			d = put(t, d, of(gen))
		}
		for marks := range 1 << len(gens) {
			r := ring{0: of(4), 1: of(5), 2: of(6), 3: of(7)}
			var keep []bool
			for i, gen := range gens {
				keep = append(keep, marks>>i&1 == 1)
				if keep[i] {
					r[gen%4] = of(gen)
				}
			}
			left, e := dev.Crash(d, keep)
			if e != api.OK {
				t.Fatal(e)
			}
			wantFind(t, fmt.Sprint(gens, keep), left, r.found()...)
		}
	}
}

// While a label is written over the oldest one of four, the last one stands, whether it is kept or not, and also when it is turned.
func TestP114W2NewestIsSafe(t *testing.T) {
	d := lasting(of(4), of(5), of(6), of(7))
	kept, _ := dev.Crash(put(t, d, of(8)), []bool{true})
	lost, _ := dev.Crash(put(t, d, of(8)), []bool{false})
	wantFind(t, "kept", kept, of(8), of(7), of(6), of(5))
	wantFind(t, "lost", lost, of(7), of(6), of(5), of(4))
	for byt := range 29 {
		torn, e := dev.Tamper(kept, 0, byt, 0x10)
		if e != api.OK {
			t.Fatal(e)
		}
		wantFind(t, fmt.Sprint("turned at ", byt), torn, of(7), of(6), of(5))
	}
}

func TestExamples(t *testing.T) {
	wantFind(t, "New", dev.New())
	l := api.Label{Gen: 5, Epoch: 1, Root: api.Ptr{At: 20, Birth: 1}}
	wantFind(t, "Gen 5", put(t, dev.New(), l), l)
	none, gone := l, l
	none.Gen, gone.Root = 0, api.Ptr{}
	wantNoPut(t, "Gen 0", dev.New(), none, api.ErrBad)
	wantNoPut(t, "Root none", dev.New(), gone, api.ErrBad)
	d := dev.New()
	for gen := uint32(1); gen <= 5; gen++ {
		l.Gen = gen
		d = put(t, d, l)
	}
	all, e := label.Find(d)
	var gens []uint32
	for _, l := range all {
		gens = append(gens, l.Gen)
	}
	if e != api.OK || !slices.Equal(gens, []uint32{5, 4, 3, 2}) {
		t.Errorf("Find of five: %d, %d", gens, e)
	}
}

// answers are all that the calls answer to a disk and a label.
func answers(d api.Disk, l api.Label) string {
	out, e := label.Put(d, l)
	all, f := label.Find(d)
	return fmt.Sprint(whole(api.Disk{Blocks: slices.Clip(out.Blocks), Waits: slices.Clip(out.Waits)}), e, all, f, label.Slot(l.Gen))
}

func TestR1AllEnd(t *testing.T) {
	disks := []api.Disk{dev.New(), disk(), full(4096), lasting(of(4), of(5)), {Blocks: make([][]byte, 1<<16), Waits: make([]api.Write, 1<<16)}, {Blocks: disk().Blocks, Waits: make([]api.Write, 4096)}}
	for _, d := range wrongDisks() {
		disks = append(disks, d)
	}
	for _, d := range disks {
		label.Find(d)
		label.Put(d, of(5))
		for _, l := range wrongLabels() {
			label.Put(d, l)
		}
	}
	for _, l := range append(labels(), wrongLabels()...) {
		label.Slot(l.Gen)
	}
}

// The same arguments have the same answers, also side by side, and no goroutine is left behind.
func TestR2ArgumentsAlone(t *testing.T) {
	d := lasting(of(4), of(5), of(6))
	d.Waits = []api.Write{write(of(9)), write(of(7)), write(of(13))}
	began, want, wrong := runtime.NumGoroutine(), answers(d, of(8)), answers(d, api.Label{})
	if now := runtime.NumGoroutine(); now > began {
		t.Errorf("%d goroutines; there were %d", now, began)
	}
	var wait sync.WaitGroup
	for range 8 {
		wait.Go(func() {
			for range 20 {
				if answers(d, of(8)) != want || answers(d, api.Label{}) != wrong {
					t.Error("a call has two answers")
				}
			}
		})
	}
	wait.Wait()
}
