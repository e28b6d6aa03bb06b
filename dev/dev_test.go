package dev_test

import (
	"bytes"
	"fmt"
	"math"
	"runtime"
	"slices"
	"strings"
	"sync"
	"testing"

	"charterhouse/api"
	"charterhouse/dev"
)

// text is what a block may hold, another one for each number.
func text(n int) []byte {
	b := make([]byte, 256)
	for i := range b {
		b[i] = byte(i*37 + n*11)
	}
	b[100], b[200] = byte(n), byte(n>>8)
	return b
}

// disk is made without package dev: block n holds text 10000+n, and write i, which goes to the i-th number of ats, text i.
func disk(ats ...int) api.Disk {
	d := api.Disk{}
	for n := range 256 {
		d.Blocks = append(d.Blocks, text(10000+n))
	}
	for i, at := range ats {
		d.Waits = append(d.Waits, api.Write{At: at, Data: text(i)})
	}
	return d
}

// many are block numbers, n of them, in no order.
func many(n int) []int {
	ats := make([]int, n)
	for i := range ats {
		ats[i] = (i*i*7 + i*3 + 5) % 256
	}
	return ats
}

// disks are those that may be: without writes, with some, with all that there may be.
func disks() []api.Disk {
	return []api.Disk{disk(), disk(0), disk(255), disk(7, 7, 7), disk(4, 9, 4, 255, 0, 9, 4), disk(many(300)...), disk(many(4095)...), disk(many(4096)...), allOne()}
}

// allOne has one list for all its blocks and writes.
func allOne() api.Disk {
	b := text(3)
	return api.Disk{Blocks: slices.Repeat([][]byte{b}, 256), Waits: slices.Repeat([]api.Write{{At: 5, Data: b}}, 20)}
}

// roomy is disk(ats...), and room to spare behind each of its lists.
func roomy(ats ...int) api.Disk {
	d := disk(ats...)
	for n := range d.Blocks {
		d.Blocks[n] = slices.Concat(d.Blocks[n], text(1), text(2))[:256]
	}
	for i := range d.Waits {
		d.Waits[i].Data = slices.Concat(d.Waits[i].Data, text(3), text(4))[:256]
	}
	d.Blocks = slices.Concat(d.Blocks, [][]byte{text(5), text(6)})[:256]
	d.Waits = slices.Concat(d.Waits, []api.Write{{At: 1, Data: text(7)}, {At: 2, Data: text(8)}})[:len(ats)]
	return d
}

// wrongAts are no block's numbers and no byte's: those beside the least and the greatest one, and such as have one of them in their lowest bits.
func wrongAts() []int {
	return []int{-1, 256, 257, 300, 511, 512, 4096, 65536, -2, -255, -256, -257, 1<<31 - 1, -1 << 31, 1 << 32, 1<<32 + 5, math.MaxInt, math.MinInt, math.MinInt + 5}
}

// wrongTexts may not be a block's, by their lengths.
func wrongTexts() [][]byte {
	return [][]byte{nil, {}, {7}, text(1)[:16], text(1)[:255], append(text(1), 0), append(text(1), text(2)...), make([]byte, 65536), make([]byte, 65536+256)}
}

// wrongDisks are those that may not be.
func wrongDisks() map[string]api.Disk {
	wrong := map[string]api.Disk{
		"nothing":           {},
		"writes alone":      {Waits: disk(1).Waits},
		"one block less":    {Blocks: disk().Blocks[1:]},
		"room for the last": {Blocks: disk().Blocks[:255]},
		"one block more":    {Blocks: append(disk().Blocks, text(1))},
		"twice the blocks":  {Blocks: append(disk().Blocks, disk().Blocks...)},
		"one write more":    disk(many(4097)...),
		"many writes more":  disk(many(8192)...),
	}
	for _, at := range []int{0, 1, 128, 255} {
		for i, b := range wrongTexts() {
			d := disk(4, 9)
			d.Blocks[at] = b
			wrong[fmt.Sprintf("block %d, text %d", at, i)] = d
		}
	}
	for _, last := range []int{0, 1, 4095} {
		for i, b := range wrongTexts() {
			d := disk(many(last + 1)...)
			d.Waits[last].Data = b
			wrong[fmt.Sprintf("write %d, text %d", last, i)] = d
		}
		for _, at := range wrongAts() {
			d := disk(many(last + 1)...)
			d.Waits[last].At = at
			wrong[fmt.Sprintf("write %d, at %d", last, at)] = d
		}
	}
	d := disk(1, 2, 3)
	d.Waits[0].At = 256
	wrong["the first write of three"] = d
	return wrong
}

// slowCrash lays the writes whose mark is true one by one.
func slowCrash(d api.Disk, keep []bool) api.Disk {
	out := api.Disk{}
	for _, b := range d.Blocks {
		out.Blocks = append(out.Blocks, []byte(string(b)))
	}
	for i, w := range d.Waits {
		if keep[i] {
			out.Blocks[w.At] = []byte(string(w.Data))
		}
	}
	return out
}

func marks(n int, mark bool) []bool {
	return slices.Repeat([]bool{mark}, n)
}

func slowFlush(d api.Disk) api.Disk {
	return slowCrash(d, marks(len(d.Waits), true))
}

// slowTwin keeps no room to spare.
func slowTwin(d api.Disk) api.Disk {
	out := api.Disk{}
	for _, b := range d.Blocks {
		out.Blocks = append(out.Blocks, []byte(string(b)))
	}
	for _, w := range d.Waits {
		out.Waits = append(out.Waits, api.Write{At: w.At, Data: []byte(string(w.Data))})
	}
	return out
}

// slowSame holds two disks against each other without package dev.
func slowSame(a, b api.Disk) bool {
	if len(a.Blocks) != len(b.Blocks) || len(a.Waits) != len(b.Waits) {
		return false
	}
	for n := range a.Blocks {
		if string(a.Blocks[n]) != string(b.Blocks[n]) {
			return false
		}
	}
	for i := range a.Waits {
		if a.Waits[i].At != b.Waits[i].At || string(a.Waits[i].Data) != string(b.Waits[i].Data) {
			return false
		}
	}
	return true
}

// whole tells all that a disk has, the room to spare behind its lists too.
func whole(d api.Disk) string {
	var all strings.Builder
	fmt.Fprintln(&all, len(d.Blocks), len(d.Waits))
	for _, b := range d.Blocks[:cap(d.Blocks)] {
		fmt.Fprintln(&all, len(b), cap(b), string(b[:cap(b)]))
	}
	for _, w := range d.Waits[:cap(d.Waits)] {
		fmt.Fprintln(&all, w.At, len(w.Data), cap(w.Data), string(w.Data[:cap(w.Data)]))
	}
	return all.String()
}

// lists are all lists of bytes that a disk has, with their room to spare.
func lists(d api.Disk) [][]byte {
	var all [][]byte
	for _, b := range d.Blocks[:cap(d.Blocks)] {
		all = append(all, b[:cap(b)])
	}
	for _, w := range d.Waits[:cap(d.Waits)] {
		all = append(all, w.Data[:cap(w.Data)])
	}
	return all
}

// spoil turns all that a disk has, the room to spare behind its lists too.
func spoil(d api.Disk) {
	for n, b := range lists(d) {
		stamp(b, n+77)
	}
	clear(d.Blocks[:cap(d.Blocks)])
	clear(d.Waits[:cap(d.Waits)])
}

func stamp(b []byte, n int) {
	for i := range b {
		b[i] = byte(n >> (i % 2 * 8))
	}
}

// wantApart asks that no two lists of a disk share memory: each is filled with a number of its own, and has it after all were filled.
func wantApart(t *testing.T, what string, d api.Disk) {
	t.Helper()
	all := lists(d)
	for n, b := range all {
		stamp(b, n)
	}
	for n, b := range all {
		want := make([]byte, len(b))
		stamp(want, n)
		if !bytes.Equal(b, want) {
			t.Errorf("%s: list %d shares memory", what, n)
			return
		}
	}
}

// differ tells the first place in which a disk is not what it should be.
func differ(d, want api.Disk) string {
	if len(d.Blocks) != len(want.Blocks) || len(d.Waits) != len(want.Waits) {
		return fmt.Sprintf("%d blocks, %d writes; want %d, %d", len(d.Blocks), len(d.Waits), len(want.Blocks), len(want.Waits))
	}
	for n, b := range want.Blocks {
		if !bytes.Equal(d.Blocks[n], b) {
			return fmt.Sprintf("block %d is %x; want %x", n, d.Blocks[n], b)
		}
	}
	for i, w := range want.Waits {
		if d.Waits[i].At != w.At || !bytes.Equal(d.Waits[i].Data, w.Data) {
			return fmt.Sprintf("write %d is %d %x; want %d %x", i, d.Waits[i].At, d.Waits[i].Data, w.At, w.Data)
		}
	}
	return ""
}

func wantDisk(t *testing.T, what string, d api.Disk, e api.Errno, want api.Disk) {
	t.Helper()
	if diff := differ(d, want); diff != "" || e != api.OK {
		t.Errorf("%s: %d, %s", what, e, diff)
	}
}

// wantNone asks that beside the error all is zero.
func wantNone(t *testing.T, what string, d api.Disk, e, want api.Errno) {
	t.Helper()
	if len(d.Blocks) != 0 || len(d.Waits) != 0 || e != want {
		t.Errorf("%s: %d blocks, %d writes, %d; want none, %d", what, len(d.Blocks), len(d.Waits), e, want)
	}
}

func wantRead(t *testing.T, d api.Disk, at int, want []byte, e api.Errno) {
	t.Helper()
	if b, got := dev.Read(d, at); !bytes.Equal(b, want) || got != e {
		t.Errorf("Read(.., %d) = %x, %d; want %x, %d", at, b, got, want, e)
	}
}

func wantSame(t *testing.T, a, b api.Disk, want bool) {
	t.Helper()
	if dev.Same(a, b) != want || dev.Same(b, a) != want {
		t.Errorf("Same = %t, turned round %t; want %t", dev.Same(a, b), dev.Same(b, a), want)
	}
}

func TestP91New(t *testing.T) {
	want := api.Disk{}
	for range 256 {
		want.Blocks = append(want.Blocks, make([]byte, 256))
	}
	d := dev.New()
	wantDisk(t, "New", d, dev.Check(d), want)
	for at := range 256 {
		wantRead(t, d, at, make([]byte, 256), api.OK)
	}
}

func TestP91Check(t *testing.T) {
	for i, d := range append(disks(), roomy(), roomy(4, 9, 4), roomy(many(4096)...)) {
		if e := dev.Check(d); e != api.OK {
			t.Errorf("disk %d: %d", i, e)
		}
	}
	for at := range 256 {
		if e := dev.Check(disk(at)); e != api.OK {
			t.Errorf("a write to %d: %d", at, e)
		}
	}
	empty := disk()
	empty.Waits = []api.Write{}
	if e := dev.Check(empty); e != api.OK {
		t.Errorf("an empty list: %d", e)
	}
}

func TestP91WrongDisks(t *testing.T) {
	for what, d := range wrongDisks() {
		if e := dev.Check(d); e != api.ErrBad {
			t.Errorf("%s: %d; want ErrBad", what, e)
		}
	}
}

// Bytes beyond a list's end are none of it, though there is room for them.
func TestP91SpareRoom(t *testing.T) {
	d := disk(1, 2)
	d.Blocks[3] = append(text(1), 7)[:255]
	if e := dev.Check(d); e != api.ErrBad {
		t.Errorf("a block of 255 bytes and room: %d", e)
	}
	d = disk(1, 2)
	d.Waits[1].Data = append(text(1), 7)[:255]
	if e := dev.Check(d); e != api.ErrBad {
		t.Errorf("a write of 255 bytes and room: %d", e)
	}
	d = disk(many(4097)...)
	d.Waits = d.Waits[:4096]
	if e := dev.Check(d); e != api.OK {
		t.Errorf("one write more beyond the end: %d", e)
	}
	wantSame(t, roomy(4, 9, 4), disk(4, 9, 4), true)
	wantSame(t, roomy(4, 9), roomy(4, 9, 4), false)
	wantDisk(t, "Twin", dev.Twin(roomy(4, 9, 4)), api.OK, disk(4, 9, 4))
}

func TestP91Same(t *testing.T) {
	all := disks()
	for i, a := range all {
		for j, b := range all {
			wantSame(t, a, b, i == j)
		}
		wantSame(t, a, slowTwin(a), true)
	}
	wantSame(t, api.Disk{}, api.Disk{}, true)
	wantSame(t, api.Disk{}, api.Disk{Blocks: [][]byte{}, Waits: []api.Write{}}, true)
	wantSame(t, disk(), api.Disk{Blocks: disk().Blocks, Waits: []api.Write{}}, true)
	wantSame(t, api.Disk{Blocks: [][]byte{nil}}, api.Disk{Blocks: [][]byte{{}}}, true)
	wantSame(t, api.Disk{Waits: []api.Write{{At: -1}}}, api.Disk{Waits: []api.Write{{At: -1, Data: []byte{}}}}, true)
}

func TestP91SameEachByteCounts(t *testing.T) {
	a, b := disk(4, 9, 4), disk(4, 9, 4)
	for n, list := range lists(b) {
		for byt := range list {
			by := byte(1) << ((n + byt) % 8)
			list[byt] ^= by
			wantSame(t, a, b, false)
			list[byt] ^= by
		}
	}
	wantSame(t, a, b, true)
}

func TestP91SameEachFieldCounts(t *testing.T) {
	a := disk(4, 9, 4)
	for i := range a.Waits {
		for _, at := range append(wrongAts(), 0, 1, 255) {
			b := disk(4, 9, 4)
			b.Waits[i].At = at
			wantSame(t, a, b, false)
		}
	}
	for _, turn := range []func(b *api.Disk){
		func(b *api.Disk) { b.Waits = b.Waits[1:] },
		func(b *api.Disk) { b.Waits = b.Waits[:2] },
		func(b *api.Disk) { b.Waits = nil },
		func(b *api.Disk) { b.Waits = append(b.Waits, b.Waits[2]) },
		func(b *api.Disk) { b.Waits[0], b.Waits[1] = b.Waits[1], b.Waits[0] },
		func(b *api.Disk) { b.Waits[0].Data, b.Waits[2].Data = b.Waits[2].Data, b.Waits[0].Data },
		func(b *api.Disk) { b.Waits[2].Data = b.Waits[2].Data[:255] },
		func(b *api.Disk) { b.Waits[2].Data = append(b.Waits[2].Data, 0) },
		func(b *api.Disk) { b.Blocks = b.Blocks[1:] },
		func(b *api.Disk) { b.Blocks = b.Blocks[:255] },
		func(b *api.Disk) { b.Blocks = nil },
		func(b *api.Disk) { b.Blocks = append(b.Blocks, nil) },
		func(b *api.Disk) { b.Blocks[0], b.Blocks[1] = b.Blocks[1], b.Blocks[0] },
		func(b *api.Disk) { b.Blocks[255] = b.Blocks[255][:255] },
		func(b *api.Disk) { b.Blocks[0] = append(b.Blocks[0], 0) },
		func(b *api.Disk) { b.Blocks[7] = nil },
	} {
		b := disk(4, 9, 4)
		turn(&b)
		wantSame(t, a, b, false)
	}
	lefts, rights := api.Disk{Blocks: [][]byte{{1, 2}, {3}}}, api.Disk{Blocks: [][]byte{{1}, {2, 3}}}
	wantSame(t, lefts, rights, false)
}

// Disks that may not be are the same as themselves, and have twins.
func TestP91AnyOnes(t *testing.T) {
	for what, d := range wrongDisks() {
		wantSame(t, d, slowTwin(d), true)
		wantSame(t, d, disk(4, 9), false)
		wantDisk(t, what, dev.Twin(d), api.OK, d)
	}
	odd := api.Disk{Blocks: [][]byte{nil, {1}, {2, 3}, nil, text(1)}, Waits: []api.Write{{At: -5}, {At: 1 << 40, Data: []byte{4}}, {At: 3, Data: make([]byte, 1000)}}}
	wantDisk(t, "an odd one", dev.Twin(odd), api.OK, odd)
}

func TestP91Twin(t *testing.T) {
	for i, d := range disks() {
		twin := dev.Twin(d)
		wantDisk(t, fmt.Sprint(i), twin, dev.Check(twin), slowTwin(d))
	}
}

func TestP92Read(t *testing.T) {
	for _, d := range append(disks(), roomy(4, 9, 4)) {
		seen := slowFlush(d)
		for at := range 256 {
			wantRead(t, d, at, seen.Blocks[at], api.OK)
		}
	}
	d := disk(4, 9, 4, 255, 0)
	for at, want := range map[int][]byte{4: text(2), 9: text(1), 255: text(3), 0: text(4), 1: text(10001), 254: text(10254)} {
		wantRead(t, d, at, want, api.OK)
	}
}

func TestP92ReadWrongAt(t *testing.T) {
	for _, at := range wrongAts() {
		wantRead(t, disk(4, 9), at, nil, api.ErrArg)
	}
}

func TestP92Write(t *testing.T) {
	for i, d := range disks() {
		if len(d.Waits) == 4096 {
			continue
		}
		for _, at := range []int{0, 4, 9, 200, 255} {
			want := slowTwin(d)
			want.Waits = append(want.Waits, api.Write{At: at, Data: text(500)})
			out, e := dev.Write(d, at, text(500))
			wantDisk(t, fmt.Sprint(i, at), out, e, want)
			wantRead(t, out, at, text(500), api.OK)
			if dev.Check(out) != api.OK {
				t.Errorf("disk %d: what Write answers may not be", i)
			}
		}
	}
}

// Each block is written, and what is written stands there already: it waits all the same.
func TestP92WriteEachBlock(t *testing.T) {
	d, want := dev.New(), dev.New()
	for _, n := range []int{0, 255, 37} {
		for at := range 256 {
			b := slices.Repeat([]byte{byte(n)}, 256)
			out, e := dev.Write(d, at, b)
			want.Waits = append(want.Waits, api.Write{At: at, Data: b})
			if e != api.OK || len(out.Waits) != len(want.Waits) {
				t.Fatalf("Write(.., %d, ..) = %d writes, %d; want %d", at, len(out.Waits), e, len(want.Waits))
			}
			d = out
		}
	}
	wantDisk(t, "768 writes", d, api.OK, want)
}

// A disk is full with MaxWaits writes, and no sooner.
func TestP92Full(t *testing.T) {
	d := disk(many(4095)...)
	d, e := dev.Write(d, 255, text(4095))
	want := disk(append(many(4095), 255)...)
	wantDisk(t, "the last write", d, e, want)
	wantRead(t, d, 255, text(4095), api.OK)
	for _, at := range []int{0, 255} {
		out, e := dev.Write(d, at, text(1))
		wantNone(t, "one write more", out, e, api.ErrFull)
	}
	flushed, e := dev.Flush(d)
	wantDisk(t, "a full disk that is flushed", flushed, e, slowFlush(want))
	out, e := dev.Write(flushed, 3, text(1))
	if e != api.OK || len(out.Waits) != 1 {
		t.Errorf("a write behind a flush: %d writes, %d", len(out.Waits), e)
	}
}

// The first fault from the left is told, and only behind both that the disk is full.
func TestP92WriteWrong(t *testing.T) {
	for _, d := range []api.Disk{disk(), disk(4, 9), disk(many(4096)...)} {
		for _, at := range wrongAts() {
			for _, b := range append(wrongTexts(), text(1)) {
				out, e := dev.Write(d, at, b)
				wantNone(t, fmt.Sprint("at ", at), out, e, api.ErrArg)
			}
		}
		for _, b := range wrongTexts() {
			out, e := dev.Write(d, 255, b)
			wantNone(t, fmt.Sprint(len(b), " bytes"), out, e, api.ErrText)
		}
		out, e := dev.Write(d, 0, append(text(1), 7)[:255])
		wantNone(t, "255 bytes and room", out, e, api.ErrText)
	}
	out, e := dev.Write(disk(), 0, append(text(1), 7)[:256])
	wantDisk(t, "256 bytes and room", out, e, api.Disk{Blocks: disk().Blocks, Waits: []api.Write{{Data: text(1)}}})
}

func TestP92Flush(t *testing.T) {
	for i, d := range append(disks(), roomy(4, 9, 4)) {
		out, e := dev.Flush(d)
		wantDisk(t, fmt.Sprint(i), out, e, slowFlush(d))
		again, e := dev.Flush(out)
		wantDisk(t, fmt.Sprint(i, " again"), again, e, out)
	}
	out, _ := dev.Flush(disk(4, 9, 4))
	want := disk()
	want.Blocks[4], want.Blocks[9] = text(2), text(1)
	wantDisk(t, "three writes", out, api.OK, want)
}

// What is flushed is seen as it was ahead of that.
func TestP92FlushedIsSeen(t *testing.T) {
	for _, d := range disks() {
		out, _ := dev.Flush(d)
		for at := range 256 {
			want, _ := dev.Read(d, at)
			wantRead(t, out, at, want, api.OK)
		}
	}
}

// eachKeep hands out all lists of n marks.
func eachKeep(n int, f func(keep []bool)) {
	for m := range 1 << n {
		keep := make([]bool, n)
		for i := range keep {
			keep[i] = m>>i&1 == 1
		}
		f(keep)
	}
}

func TestP93Crash(t *testing.T) {
	for _, ats := range [][]int{{}, {0}, {255}, {7, 7, 7}, {4, 9, 4, 255, 0, 9, 4}, {1, 2, 3, 4, 5}} {
		d := disk(ats...)
		eachKeep(len(ats), func(keep []bool) {
			out, e := dev.Crash(d, keep)
			wantDisk(t, fmt.Sprint(ats, keep), out, e, slowCrash(d, keep))
		})
	}
	d := disk(4, 9, 4)
	for _, c := range []struct {
		keep       []bool
		four, nine []byte
	}{
		{[]bool{false, false, false}, text(10004), text(10009)},
		{[]bool{true, false, false}, text(0), text(10009)},
		{[]bool{false, true, true}, text(2), text(1)},
		{[]bool{true, true, false}, text(0), text(1)},
		{[]bool{true, false, true}, text(2), text(10009)},
	} {
		want := disk()
		want.Blocks[4], want.Blocks[9] = c.four, c.nine
		out, e := dev.Crash(d, c.keep)
		wantDisk(t, fmt.Sprint(c.keep), out, e, want)
	}
}

func TestP93CrashOfMany(t *testing.T) {
	for _, d := range disks() {
		for _, step := range []int{1, 2, 3, 64, 5000} {
			keep := make([]bool, len(d.Waits))
			for i := range keep {
				keep[i] = i*i%step == step/2
			}
			out, e := dev.Crash(d, keep)
			wantDisk(t, fmt.Sprint(len(keep), step), out, e, slowCrash(d, keep))
		}
		all, _ := dev.Crash(d, marks(len(d.Waits), true))
		flushed, _ := dev.Flush(d)
		wantDisk(t, "all kept", all, api.OK, flushed)
		none, _ := dev.Crash(d, marks(len(d.Waits), false))
		wantDisk(t, "all lost", none, api.OK, api.Disk{Blocks: d.Blocks})
	}
}

func TestP93WrongMarks(t *testing.T) {
	for _, d := range []api.Disk{disk(), disk(1), disk(4, 9, 4), disk(many(4096)...), roomy(4, 9)} {
		n := len(d.Waits)
		for _, long := range []int{0, 1, 2, 3, 4, n - 1, n + 1, 2 * n, n + 256, n + 65536} {
			for _, mark := range []bool{false, true} {
				out, e := dev.Crash(d, marks(max(long, 0), mark))
				if long == n {
					wantDisk(t, fmt.Sprint(long, " marks"), out, e, slowCrash(d, marks(n, mark)))
				} else if long >= 0 {
					wantNone(t, fmt.Sprint(long, " marks of ", n), out, e, api.ErrArg)
				}
			}
		}
	}
	out, e := dev.Crash(disk(), nil)
	wantDisk(t, "no marks", out, e, disk())
	out, e = dev.Crash(disk(1, 2), marks(2, true)[:1])
	wantNone(t, "a mark beyond the end", out, e, api.ErrArg)
	out, e = dev.Crash(disk(1, 2), marks(3, true)[:2])
	wantDisk(t, "one mark more beyond the end", out, e, slowFlush(disk(1, 2)))
}

func TestP93Tamper(t *testing.T) {
	d := disk(4, 9, 4)
	for _, at := range []int{0, 4, 9, 255} {
		for byt := range 256 {
			by := byte(byt*5 + 1)
			want := slowTwin(d)
			want.Blocks[at][byt] = (want.Blocks[at][byt] | by) &^ (want.Blocks[at][byt] & by)
			out, e := dev.Tamper(d, at, byt, by)
			wantDisk(t, fmt.Sprint(at, byt, by), out, e, want)
		}
	}
	for by := range 256 {
		want := slowTwin(d)
		want.Blocks[100][by] = byte((10100*11+by*37)%256) ^ byte(by)
		if by == 100 {
			want.Blocks[100][by] = byte(10100%256) ^ byte(by)
		}
		if by == 200 {
			want.Blocks[100][by] = byte(10100/256) ^ byte(by)
		}
		out, e := dev.Tamper(d, 100, by, byte(by))
		wantDisk(t, fmt.Sprint("by ", by), out, e, want)
	}
}

// Twice by the same is once back; by 0 it is the disk that it was.
func TestP93TamperedTwice(t *testing.T) {
	for i, d := range disks() {
		once, _ := dev.Tamper(d, 9, i, 0x81)
		twice, e := dev.Tamper(once, 9, i, 0x81)
		wantDisk(t, fmt.Sprint(i, " twice"), twice, e, d)
		out, e := dev.Tamper(d, 255, 255, 0)
		wantDisk(t, fmt.Sprint(i, " by 0"), out, e, d)
	}
}

// A block that shares its memory with others is turned alone, and no write that waits is.
func TestP93TamperOfOne(t *testing.T) {
	want := slowTwin(allOne())
	want.Blocks[5][3] ^= 7
	out, e := dev.Tamper(allOne(), 5, 3, 7)
	wantDisk(t, "one list for all", out, e, want)
	wantRead(t, out, 5, text(3), api.OK)
}

func TestP93TamperWrong(t *testing.T) {
	for _, d := range []api.Disk{disk(), disk(4, 9)} {
		for _, wrong := range wrongAts() {
			for _, other := range append(wrongAts(), 0, 4, 255) {
				for _, by := range []byte{0, 1, 255} {
					out, e := dev.Tamper(d, wrong, other, by)
					wantNone(t, fmt.Sprint(wrong, other, by), out, e, api.ErrArg)
					out, e = dev.Tamper(d, other, wrong, by)
					wantNone(t, fmt.Sprint(other, wrong, by), out, e, api.ErrArg)
				}
			}
		}
	}
}

// A disk that may not be is refused first, whatever else is wrong.
func TestP92P93WrongDisks(t *testing.T) {
	for what, d := range wrongDisks() {
		n := len(d.Waits)
		for _, at := range []int{0, 255, -1, 256} {
			wantRead(t, d, at, nil, api.ErrBad)
			for _, b := range [][]byte{text(1), nil} {
				out, e := dev.Write(d, at, b)
				wantNone(t, what, out, e, api.ErrBad)
			}
			out, e := dev.Tamper(d, at, 0, 1)
			wantNone(t, what, out, e, api.ErrBad)
			out, e = dev.Tamper(d, at, -1, 1)
			wantNone(t, what, out, e, api.ErrBad)
		}
		for _, keep := range [][]bool{marks(n, false), marks(n, true), marks(n+1, true), nil} {
			out, e := dev.Crash(d, keep)
			wantNone(t, what, out, e, api.ErrBad)
		}
		out, e := dev.Flush(d)
		wantNone(t, what, out, e, api.ErrBad)
	}
}

// calls are all that answer a disk, of one that they are handed, of marks and of a text.
func calls() map[string]func(d api.Disk, keep []bool, b []byte) api.Disk {
	return map[string]func(d api.Disk, keep []bool, b []byte) api.Disk{
		"New":    func(api.Disk, []bool, []byte) api.Disk { return dev.New() },
		"Write":  func(d api.Disk, _ []bool, b []byte) api.Disk { out, _ := dev.Write(d, 9, b); return out },
		"Flush":  func(d api.Disk, _ []bool, _ []byte) api.Disk { out, _ := dev.Flush(d); return out },
		"Crash":  func(d api.Disk, keep []bool, _ []byte) api.Disk { out, _ := dev.Crash(d, keep); return out },
		"Tamper": func(d api.Disk, _ []bool, _ []byte) api.Disk { out, _ := dev.Tamper(d, 9, 3, 7); return out },
		"Twin":   func(d api.Disk, _ []bool, _ []byte) api.Disk { return dev.Twin(d) },
	}
}

// Also what lies in the room to spare behind a list stays what it is.
func TestP94OnlyReads(t *testing.T) {
	for what, call := range calls() {
		for _, ats := range [][]int{{}, {9}, {4, 9, 4, 0, 255, 9}} {
			d, keep, b := roomy(ats...), append(marks(len(ats), true), false, true), append(text(1), text(2)...)
			call(d, keep[:len(ats)], b[:256])
			if whole(d) != whole(roomy(ats...)) {
				t.Errorf("%s: a disk is turned", what)
			}
			if !slices.Equal(keep, append(marks(len(ats), true), false, true)) {
				t.Errorf("%s: marks are turned", what)
			}
			if !bytes.Equal(b, append(text(1), text(2)...)) {
				t.Errorf("%s: a text is turned", what)
			}
		}
	}
	a, b := roomy(4, 9, 4), roomy(4, 9, 4)
	dev.Check(a)
	dev.Same(a, b)
	dev.Read(a, 4)
	dev.Read(a, 5)
	if whole(a) != whole(roomy(4, 9, 4)) || whole(b) != whole(a) {
		t.Error("a disk is turned")
	}
}

// What is answered stays what it is when all that was handed in is turned, and the other way round.
func TestP94IsNewMemory(t *testing.T) {
	for what, call := range calls() {
		for _, ats := range [][]int{{}, {9}, {4, 9, 4, 0, 255, 9}} {
			d, keep, b := roomy(ats...), marks(len(ats), true), text(1)
			out, other := call(d, keep, b), call(d, keep, b)
			want := slowTwin(out)
			spoil(other)
			if whole(d) != whole(roomy(ats...)) || !bytes.Equal(b, text(1)) {
				t.Errorf("%s: an answer shares memory with what is handed in", what)
			}
			spoil(d)
			clear(keep)
			clear(b)
			if diff := differ(out, want); diff != "" {
				t.Errorf("%s: an answer shares memory: %s", what, diff)
			}
			if what != "New" && what != "Twin" {
				wantDisk(t, what, call(roomy(ats...), marks(len(ats), true), text(1)), api.OK, want)
			}
			wantApart(t, what, out)
		}
	}
}

// Of one list for all blocks and writes come as many lists as there are blocks and writes.
func TestP94OneList(t *testing.T) {
	for what, call := range calls() {
		d := allOne()
		wantApart(t, what, call(d, marks(20, true), d.Blocks[0]))
		wantApart(t, what, call(d, marks(20, false), d.Waits[0].Data))
		if diff := differ(d, allOne()); diff != "" {
			t.Errorf("%s: %s", what, diff)
		}
	}
	for what, d := range wrongDisks() {
		want := slowTwin(d)
		wantApart(t, what, dev.Twin(d))
		if diff := differ(d, want); diff != "" {
			t.Errorf("%s: %s", what, diff)
		}
	}
}

// Who appends to one list of an answer reaches no other one.
func TestP94Appended(t *testing.T) {
	for what, call := range calls() {
		out := call(disk(4, 9, 4), marks(3, true), text(1))
		want := slowTwin(out)
		for n := range out.Blocks {
			_ = append(out.Blocks[n], text(77)...)
		}
		for i := range out.Waits {
			_ = append(out.Waits[i].Data, text(77)...)
		}
		if diff := differ(out, want); diff != "" {
			t.Errorf("%s: %s", what, diff)
		}
	}
}

func TestP94ReadIsNewMemory(t *testing.T) {
	d := roomy(4, 9, 4)
	for at, want := range map[int][]byte{4: text(2), 9: text(1), 5: text(10005)} {
		a, _ := dev.Read(d, at)
		b, _ := dev.Read(d, at)
		stamp(a[:cap(a)], 999)
		if whole(d) != whole(roomy(4, 9, 4)) || !bytes.Equal(b, want) {
			t.Errorf("Read(.., %d): an answer shares memory", at)
		}
		turned := roomy(4, 9, 4)
		c, _ := dev.Read(turned, at)
		spoil(turned)
		if !bytes.Equal(c, want) {
			t.Errorf("Read(.., %d): an answer shares memory with a disk", at)
		}
	}
}

// lastTrue is the place from which on the marks of a block's own writes count; without a true one all of them do.
func lastTrue(d api.Disk, keep []bool, at int) int {
	last := 0
	for i, w := range d.Waits {
		if w.At == at && keep[i] {
			last = i
		}
	}
	return last
}

// A block hangs on the marks of its own writes alone: whatever those of others are, and those of its own ahead of the last true one.
func TestP95OwnMarksAlone(t *testing.T) {
	d := disk(4, 9, 4, 9, 4, 255, 9)
	eachKeep(7, func(keep []bool) {
		a, _ := dev.Crash(d, keep)
		eachKeep(7, func(other []bool) {
			b, _ := dev.Crash(d, other)
			for _, at := range []int{4, 9, 255} {
				alike := true
				for i := lastTrue(d, keep, at); i < 7; i++ {
					alike = alike && (d.Waits[i].At != at || keep[i] == other[i])
				}
				if alike && !bytes.Equal(a.Blocks[at], b.Blocks[at]) {
					t.Errorf("block %d hangs on more: %v, %v", at, keep, other)
				}
			}
		})
	})
}

// One mark more turns the block to which its write goes, or none.
func TestP95OneMarkMore(t *testing.T) {
	for _, d := range []api.Disk{disk(7, 7, 7), disk(4, 9, 4, 255, 0, 9), disk(1, 2, 3, 2, 1)} {
		eachKeep(len(d.Waits), func(keep []bool) {
			a, _ := dev.Crash(d, keep)
			for i, w := range d.Waits {
				more := slices.Clone(keep)
				more[i] = true
				b, _ := dev.Crash(d, more)
				for n := range b.Blocks {
					if n != w.At && !bytes.Equal(a.Blocks[n], b.Blocks[n]) {
						t.Errorf("%v, and write %d to %d kept: block %d is turned", keep, i, w.At, n)
					}
				}
				if !keep[i] && lastTrue(d, more, w.At) == i && !bytes.Equal(b.Blocks[w.At], w.Data) {
					t.Errorf("%v, and write %d to %d kept: it is not", keep, i, w.At)
				}
			}
		})
	}
}

// A disk on which only those that are kept were written, and all settled, is the same.
func TestP95LostIsNeverWritten(t *testing.T) {
	for _, ats := range [][]int{{}, {7, 7, 7}, {4, 9, 4, 255, 0, 9, 4}} {
		d := disk(ats...)
		eachKeep(len(ats), func(keep []bool) {
			kept := disk()
			for i, w := range d.Waits {
				if keep[i] {
					kept, _ = dev.Write(kept, w.At, w.Data)
				}
			}
			a, e := dev.Crash(d, keep)
			b, _ := dev.Flush(kept)
			wantDisk(t, fmt.Sprint(ats, keep), a, e, b)
		})
	}
}

// A disk goes the same way as plain lists do, through many steps of all kinds.
func TestP95ManySteps(t *testing.T) {
	d, want := dev.New(), api.Disk{}
	for range 256 {
		want.Blocks = append(want.Blocks, make([]byte, 256))
	}
	for i, at := range many(1500) {
		e := api.OK
		switch {
		case i%101 == 100:
			d, e = dev.Flush(d)
			want = slowFlush(want)
		case i%67 == 66:
			keep := make([]bool, len(want.Waits))
			for k := range keep {
				keep[k] = (k*k+i)%3 == 0
			}
			d, e = dev.Crash(d, keep)
			want = slowCrash(want, keep)
		case i%13 == 12:
			d, e = dev.Tamper(d, at, i%256, byte(i))
			want = slowTwin(want)
			want.Blocks[at][i%256] ^= byte(i)
		case i%29 == 28:
			d = dev.Twin(d)
		default:
			d, e = dev.Write(d, at%16, text(i))
			want.Waits = append(want.Waits, api.Write{At: at % 16, Data: text(i)})
		}
		wantDisk(t, fmt.Sprint("step ", i), d, e, want)
		wantRead(t, d, at%16, slowFlush(want).Blocks[at%16], api.OK)
	}
}

func TestExamples(t *testing.T) {
	sevens := bytes.Repeat([]byte{7}, 256)
	a, e := dev.Write(dev.New(), 20, sevens)
	if e != api.OK {
		t.Fatal(e)
	}
	crashed, e := dev.Crash(a, []bool{false})
	if e != api.OK {
		t.Fatal(e)
	}
	flushed, e := dev.Flush(a)
	if e != api.OK {
		t.Fatal(e)
	}
	wantRead(t, a, 20, sevens, api.OK)
	wantRead(t, crashed, 20, make([]byte, 256), api.OK)
	wantRead(t, flushed, 20, sevens, api.OK)
	turned, e := dev.Tamper(flushed, 20, 3, 1)
	if b, _ := dev.Read(turned, 20); e != api.OK || b[2] != 7 || b[3] != 6 {
		t.Errorf("%d, %x", e, b)
	}
	out, e := dev.Crash(a, nil)
	wantNone(t, "no marks", out, e, api.ErrArg)
	out, e = dev.Write(a, 256, sevens)
	wantNone(t, "block 256", out, e, api.ErrArg)
	out, e = dev.Write(a, 1, sevens[1:])
	wantNone(t, "a block short of one byte", out, e, api.ErrText)
}

func TestR1AllEnd(t *testing.T) {
	all := append(disks(), api.Disk{}, api.Disk{Blocks: make([][]byte, 256)}, api.Disk{Blocks: make([][]byte, 1<<16), Waits: make([]api.Write, 1<<16)}, api.Disk{Blocks: disk().Blocks, Waits: make([]api.Write, 4096)})
	for _, d := range wrongDisks() {
		all = append(all, d)
	}
	for i, d := range all {
		dev.Check(d)
		dev.Same(d, all[(i+1)%len(all)])
		dev.Twin(d)
		dev.Flush(d)
		dev.Crash(d, nil)
		dev.Crash(d, marks(len(d.Waits), true))
		dev.Crash(d, marks(len(d.Waits)+1, true))
		for _, at := range append(wrongAts(), 0, 255) {
			dev.Read(d, at)
			dev.Write(d, at, nil)
			dev.Write(d, at, text(1))
			dev.Tamper(d, at, at, 1)
			dev.Tamper(d, 0, at, 1)
		}
	}
}

// The same arguments have the same answers, also side by side, and no goroutine is left behind.
func TestR2ArgumentsAlone(t *testing.T) {
	d, keep, b := disk(many(50)...), marks(50, true), text(1)
	for i := range keep {
		keep[i] = i%3 != 0
	}
	began, want := runtime.NumGoroutine(), map[string]api.Disk{}
	for what, call := range calls() {
		want[what] = call(d, keep, b)
	}
	if now := runtime.NumGoroutine(); now > began {
		t.Errorf("%d goroutines; there were %d", now, began)
	}
	var wait sync.WaitGroup
	for range 8 {
		wait.Go(func() {
			for range 20 {
				for what, call := range calls() {
					if out := call(d, keep, b); !slowSame(out, want[what]) || !dev.Same(out, want[what]) {
						t.Errorf("%s has two answers", what)
					}
				}
			}
		})
	}
	wait.Wait()
}
