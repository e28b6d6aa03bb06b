package store_test

import (
	"bytes"
	"fmt"
	"math"
	"math/bits"
	"runtime"
	"slices"
	"strings"
	"sync"
	"testing"

	"charterhouse/api"
	"charterhouse/dev"
	"charterhouse/space"
	"charterhouse/store"
)

// The marks of a table, and the edges of numbers, as the document has them.
const (
	unused     = 0
	used       = 1
	later      = 2
	mostBirth  = 1<<24 - 1
	mostEpoch  = 65535
	mostCount  = 65535
	mostWaits  = 4096
	mostNumber = 1<<32 - 1
)

// text is a block of bytes, another one for each n up to 255.
func text(n int) []byte {
	b := make([]byte, 256)
	for i := range b {
		b[i] = byte(i*37 + n*11)
	}
	return b
}

// key is one of 16 bytes, another one for each n up to 255.
func key(n int) []byte {
	return text(n)[100:116:116]
}

// keys are those whose bytes are all 0, all the greatest, and unlike ones.
func keys() [][]byte {
	return [][]byte{make([]byte, 16), bytes.Repeat([]byte{255}, 16), key(1), key(2)}
}

// wrongTexts are no blocks, by their lengths.
func wrongTexts() [][]byte {
	return [][]byte{nil, {}, {1}, text(1)[:16], text(1)[:128], text(1)[:255], append(text(1), 0), append(text(1), text(2)...), make([]byte, 1<<16), make([]byte, 1<<16+256)}
}

// wrongKeys are none, by their lengths.
func wrongKeys() [][]byte {
	return [][]byte{nil, {}, {1}, key(1)[:8], key(1)[:15], append(key(1), 0), append(key(1), key(2)...), text(1), make([]byte, 1<<16+16)}
}

// births are those of blocks, about the edges and with each bit.
func births() []uint32 {
	all := []uint32{1, 2, 3, 0x030201, mostBirth - 1, mostBirth}
	for bit := range 24 {
		all = append(all, 1<<bit)
	}
	return all
}

// wrongBirths are none, also such as have the number of one in their lowest bits.
func wrongBirths() []uint32 {
	return []uint32{0, 1 << 24, 1<<24 + 1, 1<<24 + 5, 1<<25 + 7, 1 << 31, 1<<31 + 1, mostNumber}
}

// slowTurn turns four words, as chapter 2 says it, n times.
func slowTurn(x [4]uint32, n int) [4]uint32 {
	for range n {
		for _, by := range [][2]int{{15, 11}, {9, 6}} {
			x[0] += x[1]
			x[3] = bits.RotateLeft32(x[3]^x[0], by[0])
			x[2] += x[3]
			x[1] = bits.RotateLeft32(x[1]^x[2], by[1])
		}
	}
	return x
}

func slowNumber(b []byte) uint32 {
	return uint32(b[0]) + uint32(b[1])*256 + uint32(b[2])*65536 + uint32(b[3])*16777216
}

func slowBytes(n uint32) []byte {
	return []byte{byte(n), byte(n / 256), byte(n / 65536), byte(n / 16777216)}
}

func slowFour(b []byte) [4]uint32 {
	x, all := [4]uint32{1, 2, 3, 4}, append(bytes.Clone(b), 1)
	for len(all)%8 != 0 {
		all = append(all, 0)
	}
	for ; len(all) > 0; all = all[8:] {
		x[0] ^= slowNumber(all)
		x[2] ^= slowNumber(all[4:])
		x = slowTurn(x, 4)
	}
	x[1] ^= uint32(len(b))
	return slowTurn(x, 8)
}

func slowSum(b []byte) uint32 {
	return slowFour(b)[0]
}

func slowKey(parts ...[]byte) []byte {
	var k []byte
	for _, word := range slowFour(slices.Concat(parts...)) {
		k = append(k, slowBytes(word)...)
	}
	return k
}

// slowSeal tells what the cipher makes of plain, and its tag, as chapters 3, 5 and 6 say it.
func slowSeal(k []byte, iv uint32, plain []byte) ([]byte, uint32) {
	made := bytes.Clone(plain)
	for i := range made {
		made[i] ^= slowKey(k, slowBytes(iv), slowBytes(uint32(i/16)))[i%16]
	}
	inner := slowKey(k, []byte{1}, slowBytes(iv), made)
	return made, slowSum(slices.Concat(k, []byte{2}, inner))
}

// table is made without package space. Behind it there is some room to spare.
func table(of func(at int) byte) []byte {
	room := bytes.Repeat([]byte{later}, 300)
	for at := range 256 {
		room[at] = used
		if at >= 12 {
			room[at] = of(at)
		}
	}
	return room[:256]
}

// all is a table whose blocks from 12 on have one mark.
func all(mark byte) []byte {
	return table(func(int) byte { return mark })
}

// but is that, with another mark at at.
func but(mark byte, at int, other byte) []byte {
	s := all(mark)
	s[at] = other
	return s
}

// mixed is a table of all marks, another one for each n.
func mixed(n int) []byte {
	return table(func(at int) byte { return byte((at*at*7 + at*n + n*n*5) % 11 % 3) })
}

// disk is made without package dev: a text stands in each block, and of room to spare there is some.
func disk(waits ...api.Write) api.Disk {
	d := api.Disk{}
	for at := range 258 {
		d.Blocks = append(d.Blocks, slices.Concat(text(at), text(1))[:256])
	}
	d.Blocks = d.Blocks[:256]
	for i, w := range waits {
		d.Waits = append(d.Waits, api.Write{At: w.At, Data: slices.Concat(w.Data, text(i))[:256]})
	}
	d.Waits = slices.Concat(d.Waits, []api.Write{{At: 3, Data: text(5)}, {At: 13, Data: text(6)}})[:len(waits)]
	return d
}

// full is a disk on which n writes wait.
func full(n int) api.Disk {
	d := disk()
	for i := range n {
		d.Waits = append(d.Waits, api.Write{At: i * 5 % 256, Data: text(i)})
	}
	return d
}

// made is a store, all of whose fields tell something.
func made(marks []byte, waits ...api.Write) api.Store {
	return api.Store{Disk: disk(waits...), Space: marks, Epoch: 9, Count: 299}
}

// stores are those that may be, each of which has a free block, room for a write, and a number to seal by.
func stores() map[string]api.Store {
	some := map[string]api.Store{
		"New":          store.New(),
		"all free":     made(all(unused)),
		"first taken":  made(but(unused, 12, used)),
		"first given":  made(but(unused, 12, later)),
		"last free":    made(but(used, 255, unused)),
		"last of gone": made(but(later, 255, unused)),
		"one free":     made(but(used, 100, unused)),
		"they wait":    made(mixed(1), api.Write{At: 12, Data: text(40)}, api.Write{At: 13, Data: text(41)}, api.Write{At: 12, Data: text(42)}, api.Write{At: 0, Data: text(43)}, api.Write{At: 255, Data: text(44)}, api.Write{At: 5, Data: text(45)}),
		"many wait":    {Disk: full(mostWaits - 2), Space: mixed(2), Epoch: 2, Count: 2},
		"one more":     {Disk: full(mostWaits - 1), Space: mixed(3), Epoch: 3, Count: 0},
		"first epoch":  {Disk: disk(), Space: mixed(4), Epoch: 1, Count: mostCount - 1},
		"last epoch":   {Disk: disk(), Space: mixed(5), Epoch: mostEpoch, Count: mostCount - 1},
		"last begins":  {Disk: disk(), Space: mixed(6), Epoch: mostEpoch, Count: 0},
	}
	for n := range 8 {
		some[fmt.Sprint("mixed ", n)] = made(mixed(n))
	}
	return some
}

// fulls are stores on which nothing can be laid.
func fulls() map[string]api.Store {
	return map[string]api.Store{
		"all used":   made(all(used)),
		"all given":  made(all(later)),
		"either":     made(table(func(at int) byte { return byte(1 + at%2) })),
		"writes":     {Disk: full(mostWaits), Space: all(unused), Epoch: 9, Count: 299},
		"both":       {Disk: full(mostWaits), Space: all(used), Epoch: 9, Count: 299},
		"but for 11": made(but(used, 11, used)),
	}
}

// wrongStores are those that may not be: by one field each, and by several.
func wrongStores() map[string]api.Store {
	wrong := map[string]api.Store{
		"nothing": {},
		"several": {Disk: full(mostWaits + 1), Space: all(9), Epoch: 0, Count: 1 << 16},
	}
	with := func(what string, turn func(s *api.Store)) {
		s := stocked()
		turn(&s)
		wrong[what] = s
	}
	with("no disk", func(s *api.Store) { s.Disk = api.Disk{} })
	with("one block less", func(s *api.Store) { s.Disk.Blocks = s.Disk.Blocks[:255] })
	with("one block more", func(s *api.Store) { s.Disk.Blocks = append(s.Disk.Blocks, text(1)) })
	with("a short block", func(s *api.Store) { s.Disk.Blocks[255] = s.Disk.Blocks[255][:255] })
	with("a long block", func(s *api.Store) { s.Disk.Blocks[0] = append(s.Disk.Blocks[0], 0) })
	with("a write to 256", func(s *api.Store) { s.Disk.Waits = []api.Write{{At: 256, Data: text(1)}} })
	with("a write to -1", func(s *api.Store) { s.Disk.Waits = []api.Write{{At: -1, Data: text(1)}} })
	with("a short write", func(s *api.Store) { s.Disk.Waits = []api.Write{{At: 30, Data: text(1)[:255]}} })
	with("one write more", func(s *api.Store) { s.Disk = full(mostWaits + 1) })
	with("no table", func(s *api.Store) { s.Space = nil })
	with("a short table", func(s *api.Store) { s.Space = s.Space[:255] })
	with("a long table", func(s *api.Store) { s.Space = s.Space[:257] })
	for _, at := range []int{0, 4, 11} {
		with(fmt.Sprint("fixed is free ", at), func(s *api.Store) { s.Space[at] = unused })
		with(fmt.Sprint("fixed is given up ", at), func(s *api.Store) { s.Space[at] = later })
	}
	for _, at := range []int{12, 100, 255} {
		with(fmt.Sprint("mark 3 at ", at), func(s *api.Store) { s.Space[at] = 3 })
		with(fmt.Sprint("mark 255 at ", at), func(s *api.Store) { s.Space[at] = 255 })
	}
	for _, n := range []uint32{0, 1 << 16, 1<<16 + 1, 1<<16 + 9, 1 << 24, 1 << 31, mostNumber} {
		with(fmt.Sprint("Epoch ", n), func(s *api.Store) { s.Epoch = n })
	}
	for _, n := range []uint32{1 << 16, 1<<16 + 1, 1<<16 + 9, 1 << 24, 1 << 31, mostNumber} {
		with(fmt.Sprint("Count ", n), func(s *api.Store) { s.Count = n })
	}
	return wrong
}

// stocked is a store that has a plain block at 20, and one that key(1) sealed at 21, both used: see plain and sealed.
func stocked() api.Store {
	s := made(but(unused, 20, used))
	s.Space[21] = used
	s.Disk.Blocks[20] = plainText()
	s.Disk.Blocks[21], _ = slowSeal(key(1), sealed().Iv, sealedText())
	return s
}

// plainText and sealedText are such as stand in no other block that is taken.
func plainText() []byte  { return text(5) }
func sealedText() []byte { return text(6) }

func plain() api.Ptr {
	return api.Ptr{At: 20, Birth: 4, Sum: slowSum(plainText())}
}

func sealed() api.Ptr {
	const iv = 9<<16 + 7
	b, tag := slowSeal(key(1), iv, sealedText())
	return api.Ptr{At: 21, Birth: 5, Iv: iv, Tag: tag, Sum: slowSum(b)}
}

// wrongPtrs are those that may not be.
func wrongPtrs() []api.Ptr {
	wrong := []api.Ptr{{Birth: 1}, {Iv: 1}, {Tag: 1}, {Sum: 1}, {At: 20}, {At: 20, Sum: plain().Sum}, {At: math.MaxInt, Birth: 4}, {At: math.MinInt, Birth: 4}}
	for _, at := range []int{0, 1, 3, 4, 11, 256, 276, -1, -236, 1<<32 + 20} {
		p := plain()
		p.At = at
		wrong = append(wrong, p)
	}
	for _, birth := range wrongBirths() {
		p := plain()
		p.Birth = birth
		wrong = append(wrong, p)
	}
	return wrong
}

// whole tells all that a store has, the room to spare behind its lists too.
func whole(s api.Store) string {
	var told strings.Builder
	fmt.Fprintln(&told, s.Epoch, s.Count, len(s.Space), string(room(s.Space)), len(s.Disk.Blocks), len(s.Disk.Waits))
	for _, b := range room(s.Disk.Blocks) {
		fmt.Fprintln(&told, len(b), string(room(b)))
	}
	for _, w := range room(s.Disk.Waits) {
		fmt.Fprintln(&told, w.At, len(w.Data), string(room(w.Data)))
	}
	return told.String()
}

// room is a list with all that lies in the room to spare behind it.
func room[T any](l []T) []T {
	return l[:cap(l)]
}

// lists are all lists of bytes that a store has.
func lists(s api.Store) [][]byte {
	l := append(slices.Clone(s.Disk.Blocks), s.Space)
	for _, w := range s.Disk.Waits {
		l = append(l, w.Data)
	}
	return l
}

func stamp(b []byte) {
	for i := range room(b) {
		room(b)[i] ^= 255
	}
}

// spoil turns all that a store has, the room to spare behind its lists too.
func spoil(s api.Store) {
	for _, b := range lists(s) {
		stamp(b)
	}
	clear(room(s.Disk.Blocks))
	clear(room(s.Disk.Waits))
}

// slowTwin keeps nothing of s, not even its room to spare.
func slowTwin(s api.Store) api.Store {
	out := api.Store{Space: []byte(string(s.Space)), Epoch: s.Epoch, Count: s.Count}
	for _, b := range s.Disk.Blocks {
		out.Disk.Blocks = append(out.Disk.Blocks, []byte(string(b)))
	}
	for _, w := range s.Disk.Waits {
		out.Disk.Waits = append(out.Disk.Waits, api.Write{At: w.At, Data: []byte(string(w.Data))})
	}
	return out
}

// slowLaid is s as it should be behind a block that is laid, and where that stands.
func slowLaid(s api.Store, b []byte) (api.Store, int) {
	out, at := slowTwin(s), slices.Index(s.Space, unused)
	out.Space[at] = used
	out.Disk.Waits = append(out.Disk.Waits, api.Write{At: at, Data: b})
	return out, at
}

// seen are all blocks of a disk as they are seen.
func seen(d api.Disk) [][]byte {
	l := slices.Clone(d.Blocks)
	for _, w := range d.Waits {
		l[w.At] = w.Data
	}
	return l
}

// differ tells in what s is not want; nothing, if they are the same.
func differ(s, want api.Store) string {
	switch {
	case s.Epoch != want.Epoch || s.Count != want.Count:
		return fmt.Sprintf("Epoch %d, Count %d; want %d, %d", s.Epoch, s.Count, want.Epoch, want.Count)
	case !bytes.Equal(s.Space, want.Space):
		return fmt.Sprintf("table %v; want %v", s.Space, want.Space)
	case !slices.EqualFunc(s.Disk.Blocks, want.Disk.Blocks, bytes.Equal):
		return "other blocks last"
	case !slices.EqualFunc(s.Disk.Waits, want.Disk.Waits, func(a, b api.Write) bool { return a.At == b.At && bytes.Equal(a.Data, b.Data) }):
		return fmt.Sprintf("%d writes wait, %d should, or others", len(s.Disk.Waits), len(want.Disk.Waits))
	}
	return ""
}

func isZero(s api.Store) bool {
	return len(s.Disk.Blocks) == 0 && len(s.Disk.Waits) == 0 && len(s.Space) == 0 && s.Epoch == 0 && s.Count == 0
}

// wantLaid tries what is answered where a block is laid.
func wantLaid(t *testing.T, what string, want api.Store, ptr api.Ptr) func(api.Store, api.Ptr, api.Errno) {
	t.Helper()
	return func(out api.Store, p api.Ptr, e api.Errno) {
		t.Helper()
		if e != api.OK || p != ptr {
			t.Errorf("%s: %v, %d; want %v", what, p, e, ptr)
		}
		if d := differ(out, want); d != "" {
			t.Errorf("%s: %s", what, d)
		}
	}
}

// wantRefused asks that beside the error all is zero; so the other ones with 'No' do.
func wantRefused(t *testing.T, what string, want api.Errno) func(api.Store, api.Ptr, api.Errno) {
	t.Helper()
	return func(out api.Store, p api.Ptr, e api.Errno) {
		t.Helper()
		if e != want || p != (api.Ptr{}) || !isZero(out) {
			t.Errorf("%s: %v, %d, a store: %t; want %d", what, p, e, !isZero(out), want)
		}
	}
}

func wantBytes(t *testing.T, what string, want []byte) func([]byte, api.Errno) {
	t.Helper()
	return func(b []byte, e api.Errno) {
		t.Helper()
		if e != api.OK || !bytes.Equal(b, want) {
			t.Errorf("%s: %v, %d; want %v", what, b, e, want)
		}
	}
}

func wantNoBytes(t *testing.T, what string, want api.Errno) func([]byte, api.Errno) {
	t.Helper()
	return func(b []byte, e api.Errno) {
		t.Helper()
		if e != want || len(b) != 0 {
			t.Errorf("%s: %v, %d; want %d", what, b, e, want)
		}
	}
}

func wantGiven(t *testing.T, what string, s api.Store, p api.Ptr) {
	t.Helper()
	want := slowTwin(s)
	want.Space[p.At] = later
	out, e := store.Give(s, p)
	if d := differ(out, want); e != api.OK || d != "" {
		t.Errorf("%s: Give(.., %v): %d, %s", what, p, e, d)
	}
}

func wantNoGive(t *testing.T, what string, s api.Store, p api.Ptr, want api.Errno) {
	t.Helper()
	if out, e := store.Give(s, p); e != want || !isZero(out) {
		t.Errorf("%s: Give(.., %v): %d, a store: %t; want %d", what, p, e, !isZero(out), want)
	}
}

func wantCheck(t *testing.T, what string, s api.Store, want api.Errno) {
	t.Helper()
	if e := store.Check(s); e != want {
		t.Errorf("%s: Check = %d; want %d", what, e, want)
	}
}

// wantSame asks both ways round.
func wantSame(t *testing.T, what string, a, b api.Store, want bool) {
	t.Helper()
	if store.Same(a, b) != want || store.Same(b, a) != want {
		t.Errorf("%s: Same is not %t", what, want)
	}
}

// flushed is asked for stores that may be.
func flushed(t *testing.T, s api.Store) api.Store {
	t.Helper()
	d, e := dev.Flush(s.Disk)
	if e != api.OK {
		t.Fatalf("Flush: %d", e)
	}
	s.Disk = d
	return s
}

// settled is asked for stores that may be.
func settled(t *testing.T, s api.Store) api.Store {
	t.Helper()
	marks, e := space.Settle(s.Space)
	if e != api.OK {
		t.Fatalf("Settle: %d", e)
	}
	s.Space = marks
	return s
}

func TestP131New(t *testing.T) {
	s := store.New()
	want := api.Store{Disk: api.Disk{Blocks: slices.Repeat([][]byte{make([]byte, 256)}, 256)}, Space: all(unused), Epoch: 1}
	if d := differ(s, want); d != "" {
		t.Errorf("New: %s", d)
	}
	wantCheck(t, "New", s, api.OK)
}

func TestP131Check(t *testing.T) {
	for what, s := range stores() {
		wantCheck(t, what, s, api.OK)
	}
	for what, s := range fulls() {
		wantCheck(t, what, s, api.OK)
	}
	wantCheck(t, "stocked", stocked(), api.OK)
	for what, s := range wrongStores() {
		wantCheck(t, what, s, api.ErrBad)
	}
}

func TestP131CheckNumbers(t *testing.T) {
	s := stocked()
	for bit := range 32 {
		want := api.OK
		if bit >= 16 {
			want = api.ErrBad
		}
		s.Epoch, s.Count = 1<<bit, 0
		wantCheck(t, fmt.Sprint("Epoch ", s.Epoch), s, want)
		s.Epoch, s.Count = 1, 1<<bit
		wantCheck(t, fmt.Sprint("Count ", s.Count), s, want)
		s.Epoch, s.Count = 1<<bit-1, 1<<bit-1
		if want = api.OK; bit == 0 || bit > 16 {
			want = api.ErrBad
		}
		wantCheck(t, fmt.Sprint("both ", s.Count), s, want)
	}
}

// Of the right length alone is a table looked at: what lies behind it counts for nothing.
func TestP131CheckRoom(t *testing.T) {
	s := stocked()
	for n := range 301 {
		want := api.ErrBad
		if n == 256 {
			want = api.OK
		}
		s.Space = all(used)[:n]
		wantCheck(t, fmt.Sprint("a table of ", n), s, want)
	}
}

// Each field counts, each by itself.
func TestP131Same(t *testing.T) {
	for what, turn := range map[string]func(s *api.Store){
		"a block that lasts": func(s *api.Store) { s.Disk.Blocks[255][255] ^= 1 },
		"one block less":     func(s *api.Store) { s.Disk.Blocks = s.Disk.Blocks[:255] },
		"a write less":       func(s *api.Store) { s.Disk.Waits = s.Disk.Waits[:1] },
		"a write more":       func(s *api.Store) { s.Disk.Waits = append(s.Disk.Waits, s.Disk.Waits[0]) },
		"a write elsewhere":  func(s *api.Store) { s.Disk.Waits[1].At++ },
		"a write's byte":     func(s *api.Store) { s.Disk.Waits[0].Data[0] ^= 128 },
		"the first mark":     func(s *api.Store) { s.Space[0] = unused },
		"the last mark":      func(s *api.Store) { s.Space[255]++ },
		"a mark less":        func(s *api.Store) { s.Space = s.Space[:255] },
		"a mark more":        func(s *api.Store) { s.Space = s.Space[:257] },
		"no table":           func(s *api.Store) { s.Space = nil },
		"Epoch":              func(s *api.Store) { s.Epoch++ },
		"Epoch, far up":      func(s *api.Store) { s.Epoch |= 1 << 31 },
		"Count":              func(s *api.Store) { s.Count-- },
		"Count, far up":      func(s *api.Store) { s.Count |= 1 << 31 },
		"numbers exchanged":  func(s *api.Store) { s.Epoch, s.Count = s.Count, s.Epoch },
	} {
		of := func() api.Store {
			return made(mixed(1), api.Write{At: 20, Data: text(1)}, api.Write{At: 21, Data: text(2)})
		}
		a, b := of(), of()
		wantSame(t, what+", ahead", a, b, true)
		turn(&b)
		wantSame(t, what, a, b, false)
		turn(&a)
		wantSame(t, what+", both", a, b, true)
	}
}

// Also those that may not be are held against each other, and a list is the same whether there is room behind it or not.
func TestP131SameAnyOnes(t *testing.T) {
	for what, s := range wrongStores() {
		wantSame(t, what, s, slowTwin(s), true)
		wantSame(t, what, s, store.New(), false)
	}
	for what, s := range stores() {
		wantSame(t, what, s, slowTwin(s), true)
	}
	wantSame(t, "nothing", api.Store{}, api.Store{}, true)
	wantSame(t, "empty lists", api.Store{}, api.Store{Disk: api.Disk{Blocks: [][]byte{}, Waits: []api.Write{}}, Space: []byte{}}, true)
	wantSame(t, "a table alone", api.Store{}, api.Store{Space: []byte{0}}, false)
}

func TestP131Twin(t *testing.T) {
	some := wrongStores()
	for what, s := range stores() {
		some[what] = s
	}
	for what, s := range some {
		want, was := slowTwin(s), whole(s)
		one, other := store.Twin(s), store.Twin(s)
		if d := differ(one, want); d != "" {
			t.Errorf("%s: Twin: %s", what, d)
		}
		spoil(other)
		if whole(s) != was {
			t.Errorf("%s: what Twin answers shares memory with what it is handed", what)
		}
		spoil(s)
		if d := differ(one, want); d != "" {
			t.Errorf("%s: what Twin answers shares memory: %s", what, d)
		}
	}
}

// answer is what a call may answer.
type answer struct {
	s api.Store
	p api.Ptr
	b []byte
	e api.Errno
}

func (a answer) isAlone(e api.Errno) bool {
	return a.e == e && a.p == api.Ptr{} && len(a.b) == 0 && isZero(a.s)
}

// calls are all that are handed a store and something else, which is right or wrong.
func calls(right bool) map[string]func(s api.Store) answer {
	birth, p, k, b := uint32(7), sealed(), key(1), text(7)
	if !right {
		birth, p, k, b = 0, api.Ptr{At: 3}, key(1)[1:], text(7)[1:]
	}
	laid := func(s api.Store, p api.Ptr, e api.Errno) answer { return answer{s: s, p: p, e: e} }
	told := func(b []byte, e api.Errno) answer { return answer{b: b, e: e} }
	return map[string]func(s api.Store) answer{
		"Lay":  func(s api.Store) answer { return laid(store.Lay(s, birth, b)) },
		"Seal": func(s api.Store) answer { return laid(store.Seal(s, birth, k, b)) },
		"Raw":  func(s api.Store) answer { return laid(store.Raw(s, birth, 3, 4, b)) },
		"Look": func(s api.Store) answer { return told(store.Look(s, p)) },
		"Open": func(s api.Store) answer { return told(store.Open(s, p, k)) },
		"Give": func(s api.Store) answer {
			out, e := store.Give(s, p)
			return answer{s: out, e: e}
		},
	}
}

// Whether the store may be is asked ahead of all else.
func TestP131WrongStores(t *testing.T) {
	for name, call := range calls(true) {
		if a := call(stocked()); a.e != api.OK {
			t.Errorf("%s of one that may be: %d", name, a.e)
		}
	}
	for what, s := range wrongStores() {
		for _, right := range []bool{true, false} {
			for name, call := range calls(right) {
				if a := call(s); !a.isAlone(api.ErrBad) {
					t.Errorf("%s: %s: %v, %d bytes, %d; want %d", what, name, a.p, len(a.b), a.e, api.ErrBad)
				}
			}
		}
		wantNoBytes(t, what, api.ErrBad)(store.Look(s, api.Ptr{}))
		wantNoGive(t, what, s, api.Ptr{}, api.ErrBad)
		wantRefused(t, what, api.ErrBad)(store.Seal(s, 1, nil, nil))
	}
}

// Sums, tags and bytes as they were reckoned apart from this program.
func TestP132ByHand(t *testing.T) {
	for _, c := range []struct {
		b   []byte
		sum uint32
	}{{make([]byte, 256), 0x641d1b06}, {text(1), 0x02b6be16}, {bytes.Repeat([]byte{255}, 256), 0x5efb768f}} {
		_, p, e := store.Lay(store.New(), 3, c.b)
		if want := (api.Ptr{At: 12, Birth: 3, Sum: c.sum}); p != want || e != api.OK {
			t.Errorf("Lay: %v, %d; want %v", p, e, want)
		}
		_, p, e = store.Raw(store.New(), 3, 1<<31, 5, c.b)
		if want := (api.Ptr{At: 12, Birth: 3, Iv: 1 << 31, Tag: 5, Sum: c.sum}); p != want || e != api.OK {
			t.Errorf("Raw: %v, %d; want %v", p, e, want)
		}
	}
	for _, c := range []struct {
		epoch, count uint32
		key, b       []byte
		iv, tag, sum uint32
		first, last  []byte
	}{
		{1, 0, make([]byte, 16), make([]byte, 256), 65537, 0xbdf1b377, 0x7dad66a8, []byte{0xcb, 0xe4, 0x99, 0x8a}, []byte{0x06, 0x68, 0x85, 0x99}},
		{1, 0, text(1)[:16], text(1), 65537, 0x671890fd, 0xf92bd8eb, []byte{0xb7, 0xea, 0x34, 0x16}, []byte{0x60, 0x24, 0x45, 0xf4}},
		{9, 299, text(1)[:16], text(2), 590124, 0xe3488201, 0x9e828345, []byte{0x43, 0x90, 0x1a, 0x1a}, []byte{0x15, 0x0f, 0x6c, 0x0c}},
		{65535, 65534, bytes.Repeat([]byte{255}, 16), bytes.Repeat([]byte{255}, 256), 1<<32 - 1, 0x99ddcf39, 0xbd0e8921, []byte{0x90, 0x7a, 0x56, 0x78}, []byte{0xa7, 0x10, 0xfb, 0x18}},
	} {
		s := store.New()
		s.Epoch, s.Count = c.epoch, c.count
		out, p, e := store.Seal(s, 3, c.key, c.b)
		if want := (api.Ptr{At: 12, Birth: 3, Iv: c.iv, Tag: c.tag, Sum: c.sum}); p != want || e != api.OK || out.Count != c.count+1 {
			t.Fatalf("Seal: %v, %d, Count %d; want %v", p, e, out.Count, want)
		}
		made := out.Disk.Waits[0].Data
		if !bytes.Equal(made[:4], c.first) || !bytes.Equal(made[252:], c.last) {
			t.Errorf("Seal: %x", made)
		}
	}
}

// What was handed in, and nothing else, waits for the lowest free block.
func TestP132Lay(t *testing.T) {
	for what, s := range stores() {
		for n := range 3 {
			want, at := slowLaid(s, text(n))
			wantLaid(t, what, want, api.Ptr{At: at, Birth: 8, Sum: slowSum(text(n))})(store.Lay(s, 8, text(n)))
			wantLaid(t, what+", raw", want, api.Ptr{At: at, Birth: 8, Iv: 5, Tag: 6, Sum: slowSum(text(n))})(store.Raw(s, 8, 5, 6, text(n)))
		}
	}
	s := stocked()
	for _, birth := range births() {
		want, at := slowLaid(s, text(1))
		wantLaid(t, fmt.Sprint("birth ", birth), want, api.Ptr{At: at, Birth: birth, Sum: slowSum(text(1))})(store.Lay(s, birth, text(1)))
		wantLaid(t, fmt.Sprint("raw, birth ", birth), want, api.Ptr{At: at, Birth: birth, Iv: 1, Tag: 2, Sum: slowSum(text(1))})(store.Raw(s, birth, 1, 2, text(1)))
	}
}

// Any number and any tag may be, none of them too; they are not held against the block.
func TestP132RawNumbers(t *testing.T) {
	s := stocked()
	want, at := slowLaid(s, text(1))
	numbers := []uint32{0, 1, 65535, 65536, s.Epoch<<16 + s.Count + 1, 1<<31 - 1, 1 << 31, mostNumber - 1, mostNumber}
	for bit := range 32 {
		numbers = append(numbers, 1<<bit)
	}
	for _, n := range numbers {
		for _, other := range []uint32{0, 9, mostNumber, n} {
			for _, by := range [][2]uint32{{n, other}, {other, n}} {
				p := api.Ptr{At: at, Birth: 2, Iv: by[0], Tag: by[1], Sum: slowSum(text(1))}
				wantLaid(t, fmt.Sprint("numbers ", by), want, p)(store.Raw(s, 2, by[0], by[1], text(1)))
			}
		}
	}
}

// wantSealed tries Seal where nothing is wrong.
func wantSealed(t *testing.T, what string, s api.Store, birth uint32, k, b []byte) {
	t.Helper()
	iv := s.Epoch*65536 + s.Count + 1
	made, tag := slowSeal(k, iv, b)
	want, at := slowLaid(s, made)
	want.Count++
	wantLaid(t, what, want, api.Ptr{At: at, Birth: birth, Iv: iv, Tag: tag, Sum: slowSum(made)})(store.Seal(s, birth, k, b))
}

func TestP132Seal(t *testing.T) {
	for what, s := range stores() {
		wantSealed(t, what, s, 8, key(3), text(5))
		wantSealed(t, what, s, 9, make([]byte, 16), make([]byte, 256))
	}
	s := stocked()
	for _, birth := range births() {
		wantSealed(t, fmt.Sprint("birth ", birth), s, birth, key(3), text(5))
	}
	for i, k := range keys() {
		wantSealed(t, fmt.Sprint("key ", i), s, 1, k, text(5))
	}
	for n := range 30 {
		wantSealed(t, fmt.Sprint("text ", n), s, 1, key(n), text(n))
	}
}

// The numbers rise by one from each store to the one that comes from it, up to the greatest one, and then none is left, also where there is no room.
func TestP132SealNumbers(t *testing.T) {
	for _, epoch := range []uint32{1, 2, 255, 256, mostEpoch - 1, mostEpoch} {
		for bit := range 16 {
			s := stocked()
			s.Epoch, s.Count = epoch, 1<<bit-1
			wantSealed(t, fmt.Sprint("Epoch ", epoch, ", Count ", s.Count), s, 1, key(1), text(2))
		}
		s := stocked()
		s.Epoch, s.Count = epoch, mostCount-3
		for n := range uint32(3) {
			var p api.Ptr
			var e api.Errno
			s, p, e = store.Seal(s, 1, key(1), text(1))
			if e != api.OK || p.Iv != epoch<<16+mostCount-2+n || s.Count != mostCount-2+n {
				t.Fatalf("Epoch %d: %v, %d, Count %d", epoch, p, e, s.Count)
			}
		}
		wantRefused(t, "no number is left", api.ErrIv)(store.Seal(s, 1, key(1), text(1)))
		wantCheck(t, "no number is left", s, api.OK)
	}
}

// Plain blocks, and such as were sealed ahead, take no number: they are laid where none is left, too.
func TestP132NoNumberLeft(t *testing.T) {
	s := stocked()
	s.Count = mostCount
	want, at := slowLaid(s, text(1))
	wantLaid(t, "Lay", want, api.Ptr{At: at, Birth: 2, Sum: slowSum(text(1))})(store.Lay(s, 2, text(1)))
	wantLaid(t, "Raw", want, api.Ptr{At: at, Birth: 2, Iv: 3, Tag: 4, Sum: slowSum(text(1))})(store.Raw(s, 2, 3, 4, text(1)))
}

// Each argument by itself, where all others are right.
func TestP132Wrong(t *testing.T) {
	for what, s := range stores() {
		for _, birth := range wrongBirths() {
			what := fmt.Sprint(what, ", birth ", birth)
			wantRefused(t, what, api.ErrArg)(store.Lay(s, birth, text(1)))
			wantRefused(t, what, api.ErrArg)(store.Raw(s, birth, 1, 2, text(1)))
			wantRefused(t, what, api.ErrArg)(store.Seal(s, birth, key(1), text(1)))
		}
		for _, b := range wrongTexts() {
			what := fmt.Sprint(what, ", long ", len(b))
			wantRefused(t, what, api.ErrText)(store.Lay(s, 1, b))
			wantRefused(t, what, api.ErrText)(store.Raw(s, 1, 1, 2, b))
			wantRefused(t, what, api.ErrText)(store.Seal(s, 1, key(1), b))
		}
		for _, k := range wrongKeys() {
			wantRefused(t, fmt.Sprint(what, ", key long ", len(k)), api.ErrText)(store.Seal(s, 1, k, text(1)))
		}
	}
	s := stocked()
	for long := range 600 {
		if long != 256 {
			wantRefused(t, fmt.Sprint("long ", long), api.ErrText)(store.Lay(s, 1, make([]byte, long)))
			wantRefused(t, fmt.Sprint("long ", long), api.ErrText)(store.Seal(s, 1, key(1), make([]byte, long)))
		}
		if long != 16 {
			wantRefused(t, fmt.Sprint("key long ", long), api.ErrText)(store.Seal(s, 1, make([]byte, long), text(1)))
		}
	}
	wantRefused(t, "key and text exchanged", api.ErrText)(store.Seal(s, 1, text(1), key(1)))
}

// No block is free, or too many writes wait: either is ErrFull, and so are both.
func TestP132Full(t *testing.T) {
	for what, s := range fulls() {
		wantRefused(t, what, api.ErrFull)(store.Lay(s, 1, text(1)))
		wantRefused(t, what, api.ErrFull)(store.Raw(s, 1, 1, 2, text(1)))
		wantRefused(t, what, api.ErrFull)(store.Seal(s, 1, key(1), text(1)))
	}
	s := api.Store{Disk: full(mostWaits - 2), Space: all(unused), Epoch: 1}
	for range 2 {
		var e api.Errno
		if s, _, e = store.Seal(s, 1, key(1), text(1)); e != api.OK {
			t.Fatalf("Seal, as there was room: %d", e)
		}
	}
	wantRefused(t, "all 4,096 wait", api.ErrFull)(store.Lay(s, 1, text(1)))
	wantLaid(t, "flushed", flushedLaid(t, s), api.Ptr{At: 14, Birth: 1, Sum: slowSum(text(1))})(store.Lay(flushed(t, s), 1, text(1)))
}

func flushedLaid(t *testing.T, s api.Store) api.Store {
	t.Helper()
	out, _ := slowLaid(flushed(t, s), text(1))
	return out
}

// The number ahead of the text, the text ahead of the numbers to seal by, and these ahead of room.
func TestP132Order(t *testing.T) {
	some := fulls()
	some["room"] = stocked()
	for what, s := range some {
		for _, count := range []uint32{0, mostCount} {
			s.Count = count
			what := fmt.Sprint(what, ", Count ", count)
			for _, b := range [][]byte{text(1), text(1)[1:], nil} {
				wantRefused(t, what, api.ErrArg)(store.Lay(s, 0, b))
				wantRefused(t, what, api.ErrArg)(store.Raw(s, 1<<24, 0, 0, b))
				for _, k := range [][]byte{key(1), key(1)[1:], nil} {
					wantRefused(t, what, api.ErrArg)(store.Seal(s, 0, k, b))
					if len(k) != 16 || len(b) != 256 {
						wantRefused(t, what, api.ErrText)(store.Seal(s, 1, k, b))
					}
				}
				if len(b) != 256 {
					wantRefused(t, what, api.ErrText)(store.Lay(s, 1, b))
					wantRefused(t, what, api.ErrText)(store.Raw(s, 1, 0, 0, b))
				}
			}
			if count == mostCount {
				wantRefused(t, what, api.ErrIv)(store.Seal(s, 1, key(1), text(1)))
			}
		}
	}
}

// What lasts is looked at where nothing waits, else the last one of what waits; the table has no say.
func TestP133Look(t *testing.T) {
	s := stocked()
	wantBytes(t, "plain", plainText())(store.Look(s, plain()))
	made, _ := slowSeal(key(1), sealed().Iv, sealedText())
	wantBytes(t, "sealed", made)(store.Look(s, sealed()))
	for at := 12; at < 256; at++ {
		s := writtenTwice(at)
		for mark := range byte(3) {
			s.Space[at] = mark
			wantBytes(t, fmt.Sprint(at, " by mark ", mark), text(at+1))(store.Look(s, api.Ptr{At: at, Birth: 1, Sum: slowSum(text(at + 1))}))
			wantNoBytes(t, fmt.Sprint(at, " as it lasts"), api.ErrSum)(store.Look(s, api.Ptr{At: at, Birth: 1, Sum: slowSum(text(at))}))
			wantNoBytes(t, fmt.Sprint(at, " as it was written first"), api.ErrSum)(store.Look(s, api.Ptr{At: at, Birth: 1, Sum: slowSum(text(at + 2))}))
		}
	}
}

// writtenTwice is a store on which two writes wait for at, the last one of them text(at+1), and behind them one for another block.
func writtenTwice(at int) api.Store {
	return made(all(unused), api.Write{At: at, Data: text(at + 2)}, api.Write{At: at, Data: text(at + 1)}, api.Write{At: (at + 1) % 256, Data: text(at + 3)})
}

// Of a pointer At and Sum count alone, where it is looked at.
func TestP133LookPointers(t *testing.T) {
	s := stocked()
	for _, birth := range births() {
		for _, n := range []uint32{0, 1, mostNumber} {
			wantBytes(t, "other numbers", plainText())(store.Look(s, api.Ptr{At: 20, Birth: birth, Iv: n, Tag: ^n, Sum: plain().Sum}))
		}
	}
	for bit := range 32 {
		for _, p := range []api.Ptr{plain(), sealed()} {
			p.Sum ^= 1 << bit
			wantNoBytes(t, fmt.Sprint("bit ", bit, " of Sum"), api.ErrSum)(store.Look(s, p))
			wantNoBytes(t, fmt.Sprint("bit ", bit, " of Sum"), api.ErrSum)(store.Open(s, p, key(1)))
		}
	}
	for at := 12; at < 256; at++ {
		if at != 20 {
			wantNoBytes(t, fmt.Sprint("at ", at), api.ErrSum)(store.Look(s, api.Ptr{At: at, Birth: 4, Sum: plain().Sum}))
		}
	}
}

// A sum of noughts is a sum like others.
func TestP133LookNoughts(t *testing.T) {
	s := store.New()
	wantBytes(t, "noughts", make([]byte, 256))(store.Look(s, api.Ptr{At: 255, Birth: 1, Sum: 0x641d1b06}))
	wantNoBytes(t, "noughts, without a sum", api.ErrSum)(store.Look(s, api.Ptr{At: 255, Birth: 1}))
}

func TestP133WrongPointers(t *testing.T) {
	for _, s := range []api.Store{stocked(), store.New(), made(all(used)), made(all(later))} {
		for _, p := range wrongPtrs() {
			what := fmt.Sprint(p)
			wantNoBytes(t, what, api.ErrBad)(store.Look(s, p))
			wantNoBytes(t, what, api.ErrBad)(store.Open(s, p, key(1)))
			wantNoBytes(t, what, api.ErrBad)(store.Open(s, p, nil))
			wantNoGive(t, what, s, p, api.ErrBad)
		}
		wantNoBytes(t, "none", api.ErrNone)(store.Look(s, api.Ptr{}))
		wantNoBytes(t, "none", api.ErrNone)(store.Open(s, api.Ptr{}, key(1)))
		wantNoBytes(t, "none", api.ErrNone)(store.Open(s, api.Ptr{}, nil))
		wantNoGive(t, "none", s, api.Ptr{}, api.ErrNone)
	}
}

func TestP133Open(t *testing.T) {
	wantBytes(t, "stocked", sealedText())(store.Open(stocked(), sealed(), key(1)))
	for what, s := range stores() {
		for i, k := range keys() {
			out, p, e := store.Seal(s, 8, k, text(i))
			if e != api.OK {
				t.Fatalf("%s: Seal: %d", what, e)
			}
			wantBytes(t, what, text(i))(store.Open(out, p, k))
			wantBytes(t, what+", flushed", text(i))(store.Open(flushed(t, out), p, k))
			for j, other := range keys() {
				if j != i {
					wantNoBytes(t, what+", by another key", api.ErrTag)(store.Open(out, p, other))
				}
			}
		}
	}
}

// What was sealed ahead is opened by the number and the tag with which it is laid, whatever Epoch and Count are.
func TestP133OpenRaw(t *testing.T) {
	for _, iv := range []uint32{0, 1, 65535, 65537, 0x01020304, 1 << 31, mostNumber} {
		for i, k := range keys() {
			b, tag := slowSeal(k, iv, text(i))
			s, p, e := store.Raw(stocked(), 6, iv, tag, b)
			if e != api.OK {
				t.Fatalf("Raw: %d", e)
			}
			wantBytes(t, fmt.Sprint("number ", iv), text(i))(store.Open(s, p, k))
			s, p, _ = store.Raw(s, 6, iv, tag+1, b)
			wantBytes(t, "another tag", b)(store.Look(s, p))
			wantNoBytes(t, "another tag", api.ErrTag)(store.Open(s, p, k))
		}
	}
}

// Each bit of key, number and tag counts; Birth does not.
func TestP133OpenTurned(t *testing.T) {
	s := stocked()
	for bit := range 128 {
		k := key(1)
		k[bit/8] ^= 1 << (bit % 8)
		wantNoBytes(t, fmt.Sprint("bit ", bit, " of the key"), api.ErrTag)(store.Open(s, sealed(), k))
	}
	for bit := range 32 {
		p := sealed()
		p.Iv ^= 1 << bit
		wantNoBytes(t, fmt.Sprint("bit ", bit, " of Iv"), api.ErrTag)(store.Open(s, p, key(1)))
		p = sealed()
		p.Tag ^= 1 << bit
		wantNoBytes(t, fmt.Sprint("bit ", bit, " of Tag"), api.ErrTag)(store.Open(s, p, key(1)))
	}
	for _, birth := range births() {
		p := sealed()
		p.Birth = birth
		wantBytes(t, "another birth", sealedText())(store.Open(s, p, key(1)))
	}
	wantNoBytes(t, "a plain one", api.ErrTag)(store.Open(s, plain(), key(1)))
}

// What Look has an error for comes ahead of the key, and that ahead of the tag.
func TestP133OpenOrder(t *testing.T) {
	s := stocked()
	turned := sealed()
	turned.Sum++
	for _, k := range wrongKeys() {
		what := fmt.Sprint("key long ", len(k))
		wantNoBytes(t, what, api.ErrText)(store.Open(s, sealed(), k))
		wantNoBytes(t, what, api.ErrText)(store.Open(s, plain(), k))
		wantNoBytes(t, what, api.ErrSum)(store.Open(s, turned, k))
		wantNoBytes(t, what, api.ErrNone)(store.Open(s, api.Ptr{}, k))
		wantNoBytes(t, what, api.ErrBad)(store.Open(s, api.Ptr{At: 11, Birth: 1}, k))
	}
	for long := range 300 {
		if long != 16 {
			wantNoBytes(t, fmt.Sprint("key long ", long), api.ErrText)(store.Open(s, sealed(), make([]byte, long)))
		}
	}
	turned.Tag++
	wantNoBytes(t, "sum and tag", api.ErrSum)(store.Open(s, turned, key(1)))
}

// Only the table is asked: what stands in the block, and what else the pointer tells, count for nothing.
func TestP133Give(t *testing.T) {
	for what, s := range stores() {
		for at := 12; at < 256; at += 3 {
			p := api.Ptr{At: at, Birth: uint32(at), Iv: 3, Tag: 4, Sum: 5}
			if s.Space[at] == used {
				wantGiven(t, what, s, p)
			} else {
				wantNoGive(t, what, s, p, api.ErrNone)
			}
		}
	}
	for at := 12; at < 256; at++ {
		p := api.Ptr{At: at, Birth: 1}
		wantGiven(t, "all used", made(all(used)), p)
		wantGiven(t, "used alone", made(but(unused, at, used)), p)
		wantNoGive(t, "free", made(but(used, at, unused)), p, api.ErrNone)
		wantNoGive(t, "given up", made(but(used, at, later)), p, api.ErrNone)
	}
	wantGiven(t, "plain", stocked(), plain())
	wantGiven(t, "sealed", stocked(), sealed())
	for what, s := range fulls() {
		if s.Space[255] == used {
			wantGiven(t, what, s, api.Ptr{At: 255, Birth: mostBirth})
		}
	}
}

// What is given up is given up once, and is still looked at.
func TestP133GiveTwice(t *testing.T) {
	s, e := store.Give(stocked(), sealed())
	if e != api.OK {
		t.Fatal(e)
	}
	wantNoGive(t, "twice", s, sealed(), api.ErrNone)
	wantBytes(t, "given up", sealedText())(store.Open(s, sealed(), key(1)))
	s = settled(t, s)
	wantNoGive(t, "settled", s, sealed(), api.ErrNone)
	wantBytes(t, "settled", sealedText())(store.Open(s, sealed(), key(1)))
}

// Also what lies in the room to spare behind a list stays what it is, and counts for nothing.
func TestP134OnlyReads(t *testing.T) {
	some := wrongStores()
	for what, s := range stores() {
		some[what] = s
	}
	for what, s := range fulls() {
		some[what] = s
	}
	some["stocked"] = stocked()
	for what, s := range some {
		was := whole(s)
		for _, right := range []bool{true, false} {
			for _, call := range calls(right) {
				call(s)
			}
		}
		store.Check(s)
		store.Same(s, s)
		store.Twin(s)
		if whole(s) != was {
			t.Errorf("%s: a store is turned", what)
		}
	}
}

// Keys and texts are not turned either, nor is the room behind them.
func TestP134OnlyReadsTexts(t *testing.T) {
	k, b := append(key(1), text(9)...), append(text(2), text(8)...)
	wasKey, wasText := bytes.Clone(k), bytes.Clone(b)
	s, p, e := store.Seal(stocked(), 1, k[:16], b[:256])
	if e != api.OK {
		t.Fatal(e)
	}
	wantBytes(t, "sealed", text(2))(store.Open(s, p, k[:16]))
	store.Lay(s, 1, b[:256])
	store.Raw(s, 1, 2, 3, b[:256])
	store.Seal(s, 1, k[:17], b[:256])
	store.Seal(s, 1, k[:16], b[:257])
	store.Open(s, plain(), k[:16])
	store.Open(s, p, k[:17])
	if !bytes.Equal(k, wasKey) || !bytes.Equal(b, wasText) {
		t.Error("a key or a text is turned")
	}
}

// What is answered stays what it is when what was handed in, or another answer, is turned, and the other way round.
func TestP134IsNewMemory(t *testing.T) {
	of := func() api.Store {
		s := stocked()
		s.Disk.Waits = disk(api.Write{At: 30, Data: text(3)}, api.Write{At: 20, Data: plainText()}).Waits
		return s
	}
	for name, call := range calls(true) {
		s, was := of(), whole(of())
		one, other, want := call(s), call(s), call(of())
		want.s, want.b = slowTwin(want.s), []byte(string(want.b))
		spoil(other.s)
		stamp(other.b)
		if whole(s) != was {
			t.Errorf("%s: what is answered shares memory with what is handed in", name)
		}
		spoil(s)
		if d := differ(one.s, want.s); d != "" || !bytes.Equal(one.b, want.b) {
			t.Errorf("%s: what is answered shares memory: %s", name, d)
		}
		wantApart(t, name, one.s)
	}
	spoil(store.New())
	if d := differ(store.New(), api.Store{Disk: api.Disk{Blocks: slices.Repeat([][]byte{make([]byte, 256)}, 256)}, Space: all(unused), Epoch: 1}); d != "" {
		t.Errorf("New is kept: %s", d)
	}
}

// wantApart asks that no two lists of a store share memory: each is filled with a number of its own, and has it after all were filled.
func wantApart(t *testing.T, what string, s api.Store) {
	t.Helper()
	l := lists(s)
	for n, b := range l {
		for i := range room(b) {
			room(b)[i] = byte(n >> (i % 2 * 8))
		}
	}
	for n, b := range l {
		for i := range room(b) {
			if room(b)[i] != byte(n>>(i%2*8)) {
				t.Errorf("%s: list %d shares memory", what, n)
				break
			}
		}
	}
}

// A text that is laid is not kept, and one that is told is told in new memory.
func TestP134TextsAreCopied(t *testing.T) {
	b, k := text(2), key(1)
	for name, call := range map[string]func() (api.Store, api.Ptr, api.Errno){
		"Lay":  func() (api.Store, api.Ptr, api.Errno) { return store.Lay(stocked(), 1, b) },
		"Raw":  func() (api.Store, api.Ptr, api.Errno) { return store.Raw(stocked(), 1, 2, 3, b) },
		"Seal": func() (api.Store, api.Ptr, api.Errno) { return store.Seal(stocked(), 1, k, b) },
	} {
		s, p, e := call()
		if e != api.OK {
			t.Fatal(name, e)
		}
		want, _ := store.Look(slowTwin(s), p)
		stamp(b)
		wantBytes(t, name, want)(store.Look(s, p))
		stamp(b)
		for range 2 {
			got, _ := store.Look(s, p)
			stamp(got)
		}
		wantBytes(t, name, want)(store.Look(s, p))
	}
	got, _ := store.Open(stocked(), sealed(), k)
	stamp(got)
	wantBytes(t, "Open", sealedText())(store.Open(stocked(), sealed(), k))
}

// Of one list for all blocks come as many lists as there are blocks.
func TestP134OneList(t *testing.T) {
	of := func() api.Store {
		return api.Store{Disk: api.Disk{Blocks: slices.Repeat([][]byte{text(1)}, 256), Waits: slices.Repeat([]api.Write{{At: 9, Data: text(2)}}, 3)}, Space: but(unused, 20, used), Epoch: 1}
	}
	for name, call := range map[string]func(s api.Store) (api.Store, api.Ptr, api.Errno){
		"Lay":  func(s api.Store) (api.Store, api.Ptr, api.Errno) { return store.Lay(s, 1, s.Disk.Blocks[3]) },
		"Raw":  func(s api.Store) (api.Store, api.Ptr, api.Errno) { return store.Raw(s, 1, 2, 3, s.Space) },
		"Seal": func(s api.Store) (api.Store, api.Ptr, api.Errno) { return store.Seal(s, 1, key(1), s.Disk.Blocks[3]) },
		"Give": func(s api.Store) (api.Store, api.Ptr, api.Errno) {
			out, e := store.Give(s, api.Ptr{At: 20, Birth: 1})
			return out, api.Ptr{}, e
		},
		"Twin": func(s api.Store) (api.Store, api.Ptr, api.Errno) { return store.Twin(s), api.Ptr{}, api.OK },
	} {
		s := of()
		out, _, e := call(s)
		if e != api.OK {
			t.Errorf("%s: %d", name, e)
		}
		wantApart(t, name, out)
		if d := differ(s, of()); d != "" {
			t.Errorf("%s: %s", name, d)
		}
	}
}

// W3: all free blocks are taken, each once; each is somebody's then, and nothing is laid any more till one is settled.
func TestP135W3AllTaken(t *testing.T) {
	s := store.New()
	var ptrs []api.Ptr
	for n := range 244 {
		var p api.Ptr
		var e api.Errno
		switch n % 3 {
		case 0:
			s, p, e = store.Lay(s, 1, text(n))
		case 1:
			s, p, e = store.Raw(s, 1, 2, 3, text(n))
		default:
			s, p, e = store.Seal(s, 1, key(n), text(n))
		}
		if e != api.OK || p.At != 12+n {
			t.Fatalf("block %d: %v, %d", n, p, e)
		}
		ptrs = append(ptrs, p)
	}
	if !bytes.Equal(s.Space, all(used)) {
		t.Errorf("table %v", s.Space)
	}
	wantRefused(t, "all are taken", api.ErrFull)(store.Lay(s, 1, text(1)))
	for n, p := range ptrs {
		if n%3 == 2 {
			wantBytes(t, fmt.Sprint("block ", n), text(n))(store.Open(s, p, key(n)))
		} else {
			wantBytes(t, fmt.Sprint("block ", n), text(n))(store.Look(s, p))
		}
	}
	s, _ = store.Give(s, ptrs[100])
	wantRefused(t, "one is given up", api.ErrFull)(store.Lay(s, 1, text(1)))
	s, p, e := store.Lay(settled(t, s), 2, text(1))
	if e != api.OK || p.At != ptrs[100].At {
		t.Errorf("settled: %v, %d", p, e)
	}
	wantNoBytes(t, "taken again", api.ErrSum)(store.Look(s, ptrs[100]))
}

// thing is what was laid: what it is opened as, by which key (nil: it is plain).
type thing struct {
	p      api.Ptr
	b, key []byte
}

// world is a store beside what it should be: its marks, its blocks as they are seen, what stands in them, and which numbers were given out.
type world struct {
	s       api.Store
	marks   []byte
	seen    [][]byte
	things  map[int]thing
	numbers map[uint32]struct{}
	state   uint32
}

func newWorld(seed uint32) *world {
	return &world{s: store.New(), marks: all(unused), seen: slices.Repeat([][]byte{make([]byte, 256)}, 256), things: map[int]thing{}, numbers: map[uint32]struct{}{}, state: seed}
}

// chance is a number below n.
func (w *world) chance(n int) int {
	w.state = w.state*1664525 + 1013904223
	return int(w.state>>8) % n
}

// of is something that stands in a block that is used; false: there is nothing.
func (w *world) of() (thing, bool) {
	from := w.chance(256)
	for k := range 256 {
		at := (from + k) % 256
		if x, ok := w.things[at]; ok && w.marks[at] == used {
			return x, true
		}
	}
	return thing{}, false
}

// laid notes what was laid, and tries where.
func (w *world) laid(t *testing.T, out api.Store, x thing, stands []byte, e api.Errno) {
	t.Helper()
	at := slices.Index(w.marks, unused)
	if at < 0 || len(w.s.Disk.Waits) == mostWaits {
		if e != api.ErrFull {
			t.Fatalf("no room: %v, %d", x.p, e)
		}
		return
	}
	if e != api.OK || x.p.At != at {
		t.Fatalf("%v, %d; want %d", x.p, e, at)
	}
	w.s, w.marks[at], w.seen[at], w.things[at] = out, used, stands, x
}

// seals asks that the number was given out to no other one.
func (w *world) seals(t *testing.T) {
	t.Helper()
	k, b := key(w.chance(3)), text(w.chance(256))
	out, p, e := store.Seal(w.s, uint32(w.chance(1000)+1), k, b)
	if _, there := w.numbers[p.Iv]; there && e == api.OK {
		t.Fatalf("number %d seals twice", p.Iv)
	}
	if e == api.OK {
		w.numbers[p.Iv] = struct{}{}
	}
	made, _ := slowSeal(k, p.Iv, b)
	w.laid(t, out, thing{p: p, b: b, key: k}, made, e)
}

// lays lays a plain block, or what stands in another one as it is.
func (w *world) lays(t *testing.T) {
	t.Helper()
	if x, ok := w.of(); ok && x.key != nil && w.chance(2) == 0 {
		stands, e := store.Look(w.s, x.p)
		if e != api.OK {
			t.Fatalf("Look(.., %v): %d", x.p, e)
		}
		out, p, e := store.Raw(w.s, 5, x.p.Iv, x.p.Tag, stands)
		w.laid(t, out, thing{p: p, b: x.b, key: x.key}, stands, e)
		return
	}
	b := text(w.chance(256))
	out, p, e := store.Lay(w.s, uint32(w.chance(1000)+1), b)
	w.laid(t, out, thing{p: p, b: b}, b, e)
}

func (w *world) gives(t *testing.T) {
	t.Helper()
	if x, ok := w.of(); ok {
		out, e := store.Give(w.s, x.p)
		if e != api.OK {
			t.Fatalf("Give(.., %v): %d", x.p, e)
		}
		w.s, w.marks[x.p.At] = out, later
	}
}

// settles flushes and settles, as a sync does; at times the next epoch begins.
func (w *world) settles(t *testing.T) {
	t.Helper()
	w.s = settled(t, flushed(t, w.s))
	w.marks = bytes.ReplaceAll(w.marks, []byte{later}, []byte{unused})
	if w.chance(3) == 0 {
		w.s.Epoch, w.s.Count = w.s.Epoch+1, 0
	}
}

// errs does what is refused, and should turn nothing.
func (w *world) errs(t *testing.T) {
	t.Helper()
	wantRefused(t, "no birth", api.ErrArg)(store.Seal(w.s, 0, key(1), text(1)))
	wantRefused(t, "a short key", api.ErrText)(store.Seal(w.s, 1, key(1)[1:], text(1)))
	wantRefused(t, "no text", api.ErrText)(store.Lay(w.s, 1, nil))
	wantNoGive(t, "none", w.s, api.Ptr{}, api.ErrNone)
	if x, ok := w.of(); ok {
		x.p.Sum++
		wantNoBytes(t, "another sum", api.ErrSum)(store.Open(w.s, x.p, key(1)))
	}
}

// opens tries all that stands, until its block is taken again.
func (w *world) opens(t *testing.T) {
	t.Helper()
	for at, x := range w.things {
		if x.key == nil {
			wantBytes(t, fmt.Sprint("laid at ", at), x.b)(store.Look(w.s, x.p))
			continue
		}
		wantBytes(t, fmt.Sprint("sealed at ", at), x.b)(store.Open(w.s, x.p, x.key))
		wantNoBytes(t, fmt.Sprint("sealed at ", at, ", by another key"), api.ErrTag)(store.Open(w.s, x.p, key(99)))
	}
}

// What follows, beside plain lists: what was laid is seen, what was sealed is opened, no other block changes, and no number is given out twice.
func TestP135ManySteps(t *testing.T) {
	for seed, often := range []int{3, 5, 7} { // of ten steps so many lay
		w := newWorld(uint32(seed))
		fulls, epochs := 0, w.s.Epoch
		for step := range 1500 {
			switch n := w.chance(10); {
			case w.chance(60) == 0:
				w.settles(t)
			case w.chance(50) == 0:
				w.errs(t)
			case n >= often:
				w.gives(t)
			case n%2 == 0:
				w.lays(t)
			default:
				w.seals(t)
			}
			wantCheck(t, "a step", w.s, api.OK)
			if !bytes.Equal(w.s.Space, w.marks) {
				t.Fatalf("seed %d, step %d: %v; want %v", seed, step, w.s.Space, w.marks)
			}
			if !slices.EqualFunc(seen(w.s.Disk), w.seen, bytes.Equal) {
				t.Fatalf("seed %d, step %d: other blocks are seen", seed, step)
			}
			if step%50 == 49 {
				w.opens(t)
			}
			if !slices.Contains(w.marks, unused) {
				fulls++
			}
		}
		if often == 7 && fulls == 0 || len(w.numbers) < 100 || w.s.Epoch == epochs {
			t.Errorf("seed %d: full %d times, %d numbers, epoch %d", seed, fulls, len(w.numbers), w.s.Epoch)
		}
	}
}

// W4: whatever epoch and count are, no two have one number; what one epoch begins with is another number than what the one ahead ends with.
func TestP135W4Numbers(t *testing.T) {
	all := map[uint32]string{}
	for _, epoch := range []uint32{1, 2, 3, 255, 256, 257, 32767, 32768, mostEpoch - 1, mostEpoch} {
		for _, count := range []uint32{0, 1, 2, 254, 255, 256, 257, 32767, 32768, mostCount - 2, mostCount - 1} {
			s := stocked()
			s.Epoch, s.Count = epoch, count
			_, p, e := store.Seal(s, 1, key(1), text(1))
			name := fmt.Sprint("epoch ", epoch, ", count ", count)
			if other, there := all[p.Iv]; there || e != api.OK || p.Iv == 0 {
				t.Errorf("%s: number %d, %d; %s has it", name, p.Iv, e, other)
			}
			all[p.Iv] = name
		}
	}
}

// A refused call gives no number out, nor does one that seals nothing.
func TestP135W4NoNumberLost(t *testing.T) {
	s := stocked()
	first, p, _ := store.Seal(s, 1, key(1), text(1))
	if p.Iv != 9<<16+300 {
		t.Errorf("the first one: %v", p)
	}
	next, _, _ := store.Lay(first, 1, text(2))
	next, _, _ = store.Raw(next, 1, 7, 8, text(3))
	next, _ = store.Give(next, p)
	wantRefused(t, "a short text", api.ErrText)(store.Seal(next, 1, key(1), text(2)[1:]))
	_, p, _ = store.Seal(next, 1, key(1), text(1))
	if p.Iv != 9<<16+301 || first.Count != 300 || next.Count != 300 {
		t.Errorf("the second one: %v; Count %d, %d", p, first.Count, next.Count)
	}
}

// tamper is asked for places that there are.
func tamper(t *testing.T, s api.Store, at, byt int, by byte) api.Store {
	t.Helper()
	d, e := dev.Tamper(s.Disk, at, byt, by)
	if e != api.OK {
		t.Fatalf("Tamper: %d", e)
	}
	s.Disk = d
	return s
}

// W5: each byte that lasts, turned by some and by each bit; another block's bytes turn nothing, nor does the table.
func TestP135W5Turned(t *testing.T) {
	s := stocked()
	for byt := range 256 {
		for _, by := range []byte{1, 2, 4, 8, 16, 32, 64, 128, 255, 60} {
			what := fmt.Sprintf("byte %d turned by %d", byt, by)
			turned := tamper(t, s, 20, byt, by)
			wantNoBytes(t, what, api.ErrSum)(store.Look(turned, plain()))
			wantBytes(t, what, sealedText())(store.Open(turned, sealed(), key(1)))
			turned = tamper(t, s, 21, byt, by)
			wantNoBytes(t, what, api.ErrSum)(store.Open(turned, sealed(), key(1)))
			wantBytes(t, what, plainText())(store.Look(turned, plain()))
		}
	}
	turned := tamper(t, tamper(t, s, 20, 7, 9), 20, 7, 9)
	wantBytes(t, "turned back", plainText())(store.Look(turned, plain()))
	wantGiven(t, "a turned one", tamper(t, s, 20, 7, 9), plain())
}

// What waits is seen over what is turned, till power fails.
func TestP135W5Waits(t *testing.T) {
	s, p, e := store.Lay(store.New(), 1, text(9))
	if e != api.OK {
		t.Fatal(e)
	}
	wantBytes(t, "it waits", text(9))(store.Look(tamper(t, s, p.At, 0, 1), p))
	wantNoBytes(t, "it lasts", api.ErrSum)(store.Look(tamper(t, flushed(t, s), p.At, 0, 1), p))
	for _, kept := range []bool{true, false} {
		lost := s
		lost.Disk, e = dev.Crash(s.Disk, []bool{kept})
		if e != api.OK {
			t.Fatal(e)
		}
		if kept {
			wantBytes(t, "it was kept", text(9))(store.Look(lost, p))
		} else {
			wantNoBytes(t, "it was lost", api.ErrSum)(store.Look(lost, p))
		}
	}
}

// oneSum are two blocks, unlike in one byte alone, that have one sum (found apart from this program).
func oneSum() (a, b []byte) {
	a = make([]byte, 256)
	a[248], a[249], a[250], a[252] = 0x49, 0xfc, 0x01, 206
	b = bytes.Clone(a)
	b[252] = 245
	return a, b
}

// By its sum alone is a block known: one of two unlike ones that have one sum is taken for the other one, unless it was sealed.
func TestP135W5OneSum(t *testing.T) {
	a, b := oneSum()
	if bytes.Equal(a, b) || slowSum(a) != slowSum(b) || slowSum(a) != 0x9cd37819 {
		t.Fatalf("sums %08x, %08x", slowSum(a), slowSum(b))
	}
	s, p, e := store.Lay(store.New(), 1, a)
	if e != api.OK {
		t.Fatal(e)
	}
	s = flushed(t, s)
	wantBytes(t, "laid", a)(store.Look(s, p))
	wantBytes(t, "turned", b)(store.Look(tamper(t, s, p.At, 252, 206^245), p))
	wantNoBytes(t, "turned otherwise", api.ErrSum)(store.Look(tamper(t, s, p.At, 252, 206^246), p))

	opened, _ := slowSeal(key(1), 77, a) // To seal is to turn: what a is made of is what it makes.
	_, tag := slowSeal(key(1), 77, opened)
	s, p, e = store.Raw(s, 1, 77, tag, a)
	if e != api.OK {
		t.Fatal(e)
	}
	s = flushed(t, s)
	wantBytes(t, "sealed", opened)(store.Open(s, p, key(1)))
	wantBytes(t, "sealed, turned", b)(store.Look(tamper(t, s, p.At, 252, 206^245), p))
	wantNoBytes(t, "sealed, turned", api.ErrTag)(store.Open(tamper(t, s, p.At, 252, 206^245), p, key(1)))
}

func TestExamples(t *testing.T) {
	z, k := make([]byte, 256), make([]byte, 16)
	s, p, e := store.Lay(store.New(), 1, z)
	if p.At != 12 || p.Birth != 1 || p.Iv != 0 || e != api.OK {
		t.Errorf("Lay(New, 1, z): %v, %d", p, e)
	}
	wantBytes(t, "Look of that", z)(store.Look(s, p))
	s, p, e = store.Seal(store.New(), 1, k, z)
	if p.At != 12 || p.Iv != 65537 || s.Count != 1 || e != api.OK {
		t.Errorf("Seal(New, 1, k, z): %v, Count %d, %d", p, s.Count, e)
	}
	wantBytes(t, "Open of that", z)(store.Open(s, p, k))
	wantRefused(t, "Lay(New, 0, z)", api.ErrArg)(store.Lay(store.New(), 0, z))
	wantRefused(t, "Lay(New, 1, a byte)", api.ErrText)(store.Lay(store.New(), 1, []byte{1}))
	wantNoBytes(t, "Look(New, none)", api.ErrNone)(store.Look(store.New(), api.Ptr{}))
	s = store.New()
	s.Count = 65535
	wantRefused(t, "Seal where Count is 65,535", api.ErrIv)(store.Seal(s, 1, k, z))
}

func TestR1AllEnd(t *testing.T) {
	some := wrongStores()
	some["stocked"], some["New"], some["no room"] = stocked(), store.New(), made(all(used))
	some["great"] = api.Store{Disk: api.Disk{Blocks: make([][]byte, 1<<16), Waits: make([]api.Write, 1<<16)}, Space: make([]byte, 1<<20)}
	for _, s := range some {
		for _, p := range append(wrongPtrs(), api.Ptr{}, plain(), sealed()) {
			for _, k := range [][]byte{nil, key(1), make([]byte, 1<<16)} {
				store.Look(s, p)
				store.Open(s, p, k)
				store.Give(s, p)
				store.Seal(s, p.Birth, k, k)
				store.Lay(s, p.Birth, k)
				store.Raw(s, p.Birth, p.Iv, p.Tag, nil)
			}
		}
		store.Check(s)
		store.Same(s, store.New())
		store.Twin(s)
	}
}

// answers are all that the calls answer to a store, as a text.
func answers(s api.Store) string {
	var told strings.Builder
	for _, right := range []bool{true, false} {
		by := calls(right)
		for _, name := range []string{"Lay", "Seal", "Raw", "Look", "Open", "Give"} {
			a := by[name](s)
			fmt.Fprintln(&told, name, a.e, a.p, a.b, a.s.Epoch, a.s.Count, slowFour(slices.Concat(lists(a.s)...)))
		}
	}
	fmt.Fprintln(&told, store.Check(s), store.Same(s, store.New()), slowFour(slices.Concat(lists(store.Twin(s))...)))
	return told.String()
}

// The same arguments have the same answers, also side by side, and no goroutine is left behind.
func TestR2ArgumentsAlone(t *testing.T) {
	s, wrong := stocked(), stocked()
	wrong.Epoch = 0
	began, want, wantWrong := runtime.NumGoroutine(), answers(s), answers(wrong)
	if now := runtime.NumGoroutine(); now > began {
		t.Errorf("%d goroutines; there were %d", now, began)
	}
	if answers(slowTwin(s)) != want {
		t.Error("an answer hangs on the room to spare")
	}
	var wait sync.WaitGroup
	for range 8 {
		wait.Go(func() {
			for range 10 {
				if answers(s) != want || answers(wrong) != wantWrong {
					t.Error("a call has two answers")
				}
			}
		})
	}
	wait.Wait()
}
