package txg_test

import (
	"bytes"
	"fmt"
	"math/bits"
	"slices"

	"charterhouse/api"
)

// What stands here is chapter 17, and what it needs of those ahead of it, read plainly and without the project's packages.

// The marks of a table, and the edges of numbers, as the document has them.
const (
	unused     = 0
	used       = 1
	later      = 2
	isHead     = 1
	isSnap     = 2
	head       = 15
	firstBlock = 12
	lastBlock  = 255
	mostLines  = 16
	mostId     = 255
	mostDead   = 240
	mostWaits  = 4096
	mostTxg    = 1<<24 - 1
	mostEpoch  = 65535
	mostCount  = 65535
	mostNumber = 1<<32 - 1
)

var none = api.Ptr{}

// slowTurn turns four words, as chapter 2 says it, n times.
func slowTurn(x [4]uint32, n int) [4]uint32 {
	for range n {
		for _, by := range [][2]int{{15, 11}, {9, 6}} {
			x[0] += x[1]
			x[3] = bits.RotateLeft32(x[3]^x[0], by[0])
			x[2] += x[3]
			x[1] = bits.RotateLeft32(x[1]^x[2], by[1])
		}
	}
	return x
}

func slowNumber(b []byte) (n uint32) {
	for i, one := range b {
		n += uint32(one) << (8 * i)
	}
	return n
}

// slowBytes tells the lowest bytes of n, as many as long says.
func slowBytes(n uint32, long int) (b []byte) {
	for range long {
		b = append(b, byte(n%256))
		n /= 256
	}
	return b
}

func slowFour(b []byte) [4]uint32 {
	x, all := [4]uint32{1, 2, 3, 4}, append(bytes.Clone(b), 1)
	for len(all)%8 != 0 {
		all = append(all, 0)
	}
	for ; len(all) > 0; all = all[8:] {
		x[0] ^= slowNumber(all[:4])
		x[2] ^= slowNumber(all[4:8])
		x = slowTurn(x, 4)
	}
	x[1] ^= uint32(len(b))
	return slowTurn(x, 8)
}

func slowSum(b []byte) uint32 {
	return slowFour(b)[0]
}

func slowKey(parts ...[]byte) (k []byte) {
	for _, word := range slowFour(slices.Concat(parts...)) {
		k = append(k, slowBytes(word, 4)...)
	}
	return k
}

// slowCipher turns bytes by a key and a number; turned once more, they are what they were.
func slowCipher(k []byte, iv uint32, b []byte) []byte {
	b = bytes.Clone(b)
	for i := 0; i < len(b); i += 16 {
		for j, by := range slowKey(k, slowBytes(iv, 4), slowBytes(uint32(i/16), 4)) {
			b[i+j] ^= by
		}
	}
	return b
}

func slowTag(k []byte, iv uint32, made []byte) uint32 {
	return slowSum(slices.Concat(k, []byte{2}, slowKey(k, []byte{1}, slowBytes(iv, 4), made)))
}

// filled has noughts behind it, up to a block.
func filled(b []byte) []byte {
	return append(bytes.Clone(b), make([]byte, 256-len(b))...)
}

func slowPtr(p api.Ptr) []byte {
	return slices.Concat([]byte{byte(p.At)}, slowBytes(p.Birth, 3), slowBytes(p.Iv, 4), slowBytes(p.Tag, 4), slowBytes(p.Sum, 4))
}

func slowRow(l []api.Ptr) []byte {
	var b []byte
	for _, p := range l {
		b = append(b, slowPtr(p)...)
	}
	return filled(b)
}

func slowObject(o api.Object) []byte {
	b := append([]byte{o.Kind, byte(o.Links), byte(o.Size % 256), byte(o.Size / 256)}, make([]byte, 12)...)
	for _, p := range o.Data {
		b = append(b, slowPtr(p)...)
	}
	return b
}

// slowLine tells the 48 bytes of a line whose dead list is at p.
func slowLine(l api.Line, p api.Ptr) []byte {
	b := []byte{byte(l.Id), l.Kind, byte(l.Owner), byte(l.Prev)}
	b = slices.Concat(b, slowBytes(l.Txg, 3), slowBytes(l.Guid, 4), []byte{byte(l.Key)})
	return slices.Concat(b, slowPtr(l.Root), slowPtr(p), make([]byte, 4))
}

func slowKeys(keys [][]byte) []byte {
	var b []byte
	for _, key := range keys {
		if len(key) == 0 {
			key = make([]byte, 24)
		}
		b = append(b, key...)
	}
	return filled(b)
}

// slowRoot tells the root's block of so many lines.
func slowRoot(nextId int, nextGuid uint32, many int, lines []api.Ptr, keys api.Ptr) []byte {
	b := slices.Concat([]byte{82}, slowBytes(uint32(nextId), 2), slowBytes(nextGuid, 4), []byte{byte(many)}, make([]byte, 8))
	for i := range 4 {
		if i < len(lines) {
			b = append(b, slowPtr(lines[i])...)
		} else {
			b = append(b, make([]byte, 16)...)
		}
	}
	return filled(append(b, slowPtr(keys)...))
}

func slowLabel(l api.Label) []byte {
	b := slices.Concat([]byte{67}, slowBytes(l.Gen, 4), slowBytes(l.Epoch, 4), slowPtr(l.Root))
	return filled(append(b, slowBytes(slowSum(b), 4)...))
}

// slowTwinDisk keeps nothing of d, not even its room to spare.
func slowTwinDisk(d api.Disk) (out api.Disk) {
	for _, b := range d.Blocks {
		out.Blocks = append(out.Blocks, []byte(string(b)))
	}
	for _, w := range d.Waits {
		out.Waits = append(out.Waits, api.Write{At: w.At, Data: []byte(string(w.Data))})
	}
	return out
}

func slowTwin(p api.Pool) api.Pool {
	p.Store.Disk = slowTwinDisk(p.Store.Disk)
	p.Store.Space = []byte(string(p.Store.Space))
	p.Meta = append([]int(nil), p.Meta...)
	p.Lines = append([]api.Line(nil), p.Lines...)
	for i := range p.Lines {
		p.Lines[i].Dead = append([]api.Ptr(nil), p.Lines[i].Dead...)
	}
	p.Changes = append([]api.Change(nil), p.Changes...)
	for i := range p.Changes {
		p.Changes[i].Data = []byte(string(p.Changes[i].Data))
	}
	keys := func(of [][]byte) (to [][]byte) {
		for _, key := range of {
			to = append(to, []byte(string(key)))
		}
		return to
	}
	p.Keys, p.Loaded = keys(p.Keys), keys(p.Loaded)
	return p
}

func sameDisk(a, b api.Disk) bool {
	return slices.EqualFunc(a.Blocks, b.Blocks, bytes.Equal) &&
		slices.EqualFunc(a.Waits, b.Waits, func(a, b api.Write) bool { return a.At == b.At && bytes.Equal(a.Data, b.Data) })
}

// differ tells in what p is not want; nothing, if they are the same. A list without elements may be nil or not.
func differ(p, want api.Pool) string {
	told := func(p api.Pool) map[string]string {
		m := map[string]string{
			"Epoch, Count":     fmt.Sprint(p.Store.Epoch, p.Store.Count),
			"Space":            fmt.Sprint(p.Store.Space),
			"Gen, Root":        fmt.Sprint(p.Gen, p.Root),
			"Meta":             fmt.Sprint(p.Meta),
			"Lines":            fmt.Sprint(p.Lines),
			"Keys, Loaded":     fmt.Sprint(len(p.Keys), p.Keys, len(p.Loaded), p.Loaded),
			"Changes":          fmt.Sprint(p.Changes),
			"Logged":           fmt.Sprint(p.Logged),
			"NextId, NextGuid": fmt.Sprint(p.NextId, p.NextGuid),
		}
		return m
	}
	a, b := told(p), told(want)
	for _, what := range slices.Sorted(func(yield func(string) bool) {
		for what := range a {
			if !yield(what) {
				return
			}
		}
	}) {
		if a[what] != b[what] {
			return fmt.Sprintf("%s: %s; want %s", what, a[what], b[what])
		}
	}
	if !sameDisk(p.Store.Disk, want.Store.Disk) {
		return fmt.Sprintf("another disk, on which %d writes wait; want %d", len(p.Store.Disk.Waits), len(want.Store.Disk.Waits))
	}
	return ""
}

func isZero(p api.Pool) bool {
	return len(p.Store.Disk.Blocks)+len(p.Store.Disk.Waits)+len(p.Store.Space) == 0 && differ(p, api.Pool{}) == ""
}

func within(n, least, most int) bool {
	return least <= n && n <= most
}

func plainPtr(p api.Ptr) bool {
	return p == none || within(p.At, firstBlock, lastBlock) && within(int(p.Birth), 1, mostTxg)
}

func plainDisk(d api.Disk) bool {
	may := len(d.Blocks) == 256 && len(d.Waits) <= mostWaits
	for _, b := range d.Blocks {
		may = may && len(b) == 256
	}
	for _, w := range d.Waits {
		may = may && within(w.At, 0, 255) && len(w.Data) == 256
	}
	return may
}

func plainStore(s api.Store) bool {
	may := plainDisk(s.Disk) && len(s.Space) == 256 && within(int(s.Epoch), 1, mostEpoch) && s.Count <= mostCount
	for at, mark := range s.Space {
		may = may && mark <= later && (at >= firstBlock || mark == used)
	}
	return may
}

func plainDead(l []api.Ptr) bool {
	may, last := len(l) <= mostDead, 0
	for _, p := range l {
		may = may && p != none && plainPtr(p) && p.At > last
		last = p.At
	}
	return may
}

// plainLines asks each condition of the chapter by a table of all that were seen.
func plainLines(lines []api.Line) bool {
	if len(lines) > mostLines {
		return false
	}
	heads, snaps := map[int]bool{}, map[int]api.Line{}
	for _, l := range lines {
		if l.Kind == isHead {
			heads[l.Id] = true
		}
		if l.Kind == isSnap {
			snaps[l.Id] = l
		}
	}
	last := 0
	for _, l := range lines {
		if !within(l.Id, 1, mostId) || l.Id <= last {
			return false
		}
		last = l.Id
		owned := l.Kind == isHead && l.Owner == l.Id || l.Kind == isSnap && heads[l.Owner]
		if !owned || l.Txg > mostTxg || !within(l.Key, 0, 7) || !plainPtr(l.Root) || !plainDead(l.Dead) {
			return false
		}
		if prev, ok := snaps[l.Prev]; l.Prev != 0 && (!ok || prev.Key != l.Key || prev.Txg > l.Txg || l.Kind == isSnap && prev.Txg == l.Txg) {
			return false
		}
	}
	return true
}

func plainChange(c api.Change) bool {
	if !within(c.Obj, 0, 15) || !within(c.Index, 0, 15) {
		return false
	}
	if c.Index < head {
		return c.Kind == 0 && c.Links == 0 && c.Size == 0 && (len(c.Data) == 0 || len(c.Data) == 256) && plainPtr(c.Laid)
	}
	if c.Kind == 0 && (c.Links != 0 || c.Size != 0) {
		return false
	}
	return c.Kind <= 7 && within(c.Links, 0, 255) && within(c.Size, 0, 3840) && len(c.Data) == 0 && c.Laid == none
}

func plainChanges(changes []api.Change, lines []api.Line) bool {
	last := -1
	for _, c := range changes {
		of := slices.ContainsFunc(lines, func(l api.Line) bool { return l.Id == c.Set && l.Kind == isHead })
		if !of || !plainChange(c) || c.Set*256+c.Obj*16+c.Index <= last {
			return false
		}
		last = c.Set*256 + c.Obj*16 + c.Index
	}
	return true
}

func plainKeys(keys [][]byte, long int, noNoughts bool) bool {
	may := len(keys) == 8
	for _, key := range keys {
		may = may && (len(key) == 0 || len(key) == long && !(noNoughts && bytes.Equal(key, make([]byte, long))))
	}
	return may
}

// plainMayBe tells whether a pool may be.
func plainMayBe(p api.Pool) bool {
	if !plainStore(p.Store) || p.Gen > mostTxg || !plainPtr(p.Root) || (p.Root == none) != (p.Gen == 0) {
		return false
	}
	last := 0
	for _, at := range p.Meta {
		if !within(at, firstBlock, lastBlock) || at <= last || p.Store.Space[at] != used {
			return false
		}
		last = at
	}
	if !plainLines(p.Lines) || !plainKeys(p.Keys, 24, true) || !plainKeys(p.Loaded, 16, false) || !plainChanges(p.Changes, p.Lines) {
		return false
	}
	may := within(p.Logged, 0, 8) && within(p.NextId, 1, 256)
	for _, l := range p.Lines {
		may = may && p.NextId > l.Id && p.NextGuid > l.Guid
	}
	return may
}

// plain is a pool that goes through a sync, or that is read back. What is refused leaves by a panic with its error.
type plain struct {
	p      api.Pool
	birth  uint32
	halves [2]api.Disk
}

func leave(e api.Errno) {
	panic(e)
}

func left(do func()) (e api.Errno) {
	defer func() {
		if x := recover(); x != nil {
			e = x.(api.Errno)
		}
	}()
	do()
	return api.OK
}

// seen is a block as it is seen.
func seen(d api.Disk, at int) []byte {
	for _, w := range slices.Backward(d.Waits) {
		if w.At == at {
			return w.Data
		}
	}
	return d.Blocks[at]
}

func (x *plain) look(p api.Ptr) []byte {
	b := seen(x.p.Store.Disk, p.At)
	if slowSum(b) != p.Sum {
		leave(api.ErrSum)
	}
	return b
}

// pointers are those that stand in bytes.
func pointers(b []byte) (l []api.Ptr) {
	for ; len(b) > 0; b = b[16:] {
		p := api.Ptr{At: int(b[0]), Birth: slowNumber(b[1:4]), Iv: slowNumber(b[4:8]), Tag: slowNumber(b[8:12]), Sum: slowNumber(b[12:16])}
		if !plainPtr(p) {
			leave(api.ErrBad)
		}
		l = append(l, p)
	}
	return l
}

func (x *plain) ptrs(root api.Ptr) []api.Ptr {
	if root == none {
		return make([]api.Ptr, 16)
	}
	return pointers(x.look(root))
}

func (x *plain) object(p api.Ptr) api.Object {
	b := x.look(p)
	o := api.Object{Kind: b[0], Links: int(b[1]), Size: int(b[2]) + int(b[3])*256, Data: pointers(b[16:])}
	if !within(int(o.Kind), 1, 7) || o.Size > 3840 || !bytes.Equal(b[4:16], make([]byte, 12)) {
		leave(api.ErrBad)
	}
	return o
}

func (x *plain) lay(b []byte) api.Ptr {
	s := &x.p.Store
	at := slices.Index(s.Space, unused)
	if at < 0 || len(s.Disk.Waits) == mostWaits {
		leave(api.ErrFull)
	}
	s.Space[at] = used
	s.Disk.Waits = append(s.Disk.Waits, api.Write{At: at, Data: b})
	return api.Ptr{At: at, Birth: x.birth, Sum: slowSum(b)}
}

func (x *plain) seal(key, b []byte) api.Ptr {
	if len(key) == 0 {
		leave(api.ErrKey)
	}
	if x.p.Store.Count == mostCount {
		leave(api.ErrIv)
	}
	x.p.Store.Count++
	iv := x.p.Store.Epoch*65536 + x.p.Store.Count
	made := slowCipher(key, iv, b)
	p := x.lay(made)
	p.Iv, p.Tag = iv, slowTag(key, iv, made)
	return p
}

func (x *plain) giveUp(l *api.Line, p api.Ptr) {
	if p == none {
		return
	}
	at := func(q api.Ptr) bool { return q.At == p.At }
	if x.p.Store.Space[p.At] != used || slices.ContainsFunc(l.Dead, at) {
		leave(api.ErrBad)
	}
	since := uint32(0)
	for _, prev := range x.p.Lines {
		if l.Prev == prev.Id {
			since = prev.Txg
		}
	}
	if p.Birth > since {
		x.p.Store.Space[p.At] = later
		return
	}
	if len(l.Dead) == mostDead {
		leave(api.ErrFull)
	}
	l.Dead = append(l.Dead, p)
	slices.SortFunc(l.Dead, func(a, b api.Ptr) int { return a.At - b.At })
}

// changeObject tells where an object stands that stood at was.
func (x *plain) changeObject(l *api.Line, n int, was api.Ptr, changes []api.Change) api.Ptr {
	o := api.Object{Data: make([]api.Ptr, 15)}
	if now := x.ptrs(l.Root)[n]; now != none {
		o = x.object(now)
	}
	for _, c := range changes {
		if c.Index == head {
			o.Kind, o.Links, o.Size = c.Kind, c.Links, c.Size
			continue
		}
		x.giveUp(l, o.Data[c.Index])
		o.Data[c.Index] = none
		if c.Laid != none {
			o.Data[c.Index] = c.Laid
		} else if len(c.Data) > 0 {
			o.Data[c.Index] = x.seal(x.p.Loaded[l.Key], c.Data)
		}
	}
	x.giveUp(l, was)
	if o.Kind > 0 {
		return x.lay(slowObject(o))
	}
	for _, p := range o.Data {
		x.giveUp(l, p)
	}
	return none
}

func (x *plain) changeLine(l *api.Line) {
	of := map[int][]api.Change{}
	for _, c := range x.p.Changes {
		if c.Set == l.Id {
			of[c.Obj] = append(of[c.Obj], c)
		}
	}
	if len(of) == 0 {
		return
	}
	row := x.ptrs(l.Root)
	for n := range 16 {
		if len(of[n]) > 0 {
			row[n] = x.changeObject(l, n, row[n], of[n])
		}
	}
	x.giveUp(l, l.Root)
	l.Root = none
	if !slices.Equal(row, make([]api.Ptr, 16)) {
		l.Root = x.lay(slowRow(row))
	}
}

// layMeta is step 2.
func (x *plain) layMeta() {
	for _, at := range x.p.Meta {
		if x.p.Store.Space[at] != used {
			leave(api.ErrNone)
		}
		x.p.Store.Space[at] = later
	}
	x.p.Meta = nil
	own := func(b []byte) api.Ptr {
		p := x.lay(b)
		x.p.Meta = append(x.p.Meta, p.At)
		return p
	}
	lines := x.p.Lines
	gone := make([]api.Ptr, len(lines))
	for i, l := range lines {
		var rows []api.Ptr
		for at := 0; at < len(l.Dead); at += 16 {
			rows = append(rows, own(slowRow(l.Dead[at:min(at+16, len(l.Dead))])))
		}
		if len(rows) > 0 {
			gone[i] = own(slowRow(rows))
		}
	}
	var to []api.Ptr
	for at := 0; at == 0 || at < len(lines); at += 5 {
		var b []byte
		for i := at; i < min(at+5, len(lines)); i++ {
			b = append(b, slowLine(lines[i], gone[i])...)
		}
		to = append(to, own(filled(b)))
	}
	keys := own(slowKeys(x.p.Keys))
	x.p.Root = own(slowRoot(x.p.NextId, x.p.NextGuid, len(lines), to, keys))
	slices.Sort(x.p.Meta)
}

func (x *plain) flush(n int) {
	d := &x.p.Store.Disk
	x.halves[n] = slowTwinDisk(*d)
	for _, w := range d.Waits {
		d.Blocks[w.At] = w.Data
	}
	d.Waits = nil
}

func (x *plain) sync() {
	for i := range x.p.Lines {
		x.changeLine(&x.p.Lines[i])
	}
	x.layMeta()
	x.flush(0)
	l := api.Label{Gen: x.birth, Epoch: x.p.Store.Epoch, Root: x.p.Root}
	x.p.Store.Disk.Waits = []api.Write{{At: int(x.birth % 4), Data: slowLabel(l)}}
	x.flush(1)
	for at, mark := range x.p.Store.Space {
		if mark == later {
			x.p.Store.Space[at] = unused
		}
	}
	x.p.Gen, x.p.Changes, x.p.Logged = x.birth, nil, 0
}

func plainSync(p api.Pool) (out api.Pool, halves [2]api.Disk, e api.Errno) {
	if !plainMayBe(p) {
		return out, halves, api.ErrBad
	}
	if p.Gen == mostTxg {
		return out, halves, api.ErrFull
	}
	x := &plain{p: slowTwin(p), birth: p.Gen + 1}
	if e := left(x.sync); e != api.OK {
		return out, halves, e
	}
	return x.p, x.halves, api.OK
}

// dead reads a list and the blocks of its rows.
func (x *plain) dead(p api.Ptr) (l []api.Ptr, own []int) {
	if p == none {
		return nil, nil
	}
	row := func(p api.Ptr) []api.Ptr {
		all := pointers(x.look(p))
		l := slices.DeleteFunc(slices.Clone(all), func(p api.Ptr) bool { return p == none })
		if len(l) == 0 || !slices.Equal(l, all[:len(l)]) {
			leave(api.ErrBad)
		}
		return l
	}
	rows := row(p)
	for i, below := range rows {
		some := row(below)
		if i < len(rows)-1 && len(some) < 16 {
			leave(api.ErrBad)
		}
		l, own = append(l, some...), append(own, below.At)
	}
	if !plainDead(l) {
		leave(api.ErrBad)
	}
	return l, append(own, p.At)
}

// walk tells all pointers below a root.
func (x *plain) walk(root api.Ptr) (l []api.Ptr) {
	if root == none {
		return nil
	}
	l = append(l, root)
	for _, p := range x.ptrs(root) {
		if p != none {
			l = append(l, p)
			l = append(l, slices.DeleteFunc(x.object(p).Data, func(p api.Ptr) bool { return p == none })...)
		}
	}
	return l
}

// readRoot tells the pointers to the lines' blocks, that to the keys', and how many lines there are.
func (x *plain) readRoot() (lines []api.Ptr, keys api.Ptr, many int) {
	b := x.look(x.p.Root)
	many = int(b[7])
	l := pointers(b[16:])
	need := max(1, (many+4)/5)
	if b[0] != 82 || many > 16 || !bytes.Equal(b[8:16], make([]byte, 8)) {
		leave(api.ErrBad)
	}
	for i, p := range l {
		if wanted := i < need || i == 4; wanted != (p != none) {
			leave(api.ErrBad)
		}
	}
	x.p.NextId, x.p.NextGuid = int(slowNumber(b[1:3])), slowNumber(b[3:7])
	return l[:need], l[4], many
}

// readLines tells so many lines, and the pointers to their dead lists.
func readLines(blocks [][]byte, many int) (lines []api.Line, gone []api.Ptr) {
	all := bytes.Join(blocks, nil)
	for i := range len(blocks) * 5 {
		b := all[i/5*256+i%5*48:][:48]
		if i >= many {
			if !bytes.Equal(b, make([]byte, 48)) {
				leave(api.ErrBad)
			}
			continue
		}
		to := pointers(b[12:44])
		if slowNumber(b[44:48]) != 0 {
			leave(api.ErrBad)
		}
		lines = append(lines, api.Line{Id: int(b[0]), Kind: b[1], Owner: int(b[2]), Prev: int(b[3]), Txg: slowNumber(b[4:7]), Guid: slowNumber(b[7:11]), Key: int(b[11]), Root: to[0]})
		gone = append(gone, to[1])
	}
	for _, b := range blocks {
		if !bytes.Equal(b[240:], make([]byte, 16)) {
			leave(api.ErrBad)
		}
	}
	return lines, gone
}

func readKeys(b []byte) (keys [][]byte) {
	for i := range 8 {
		key := bytes.Clone(b[i*24 : i*24+24])
		if bytes.Equal(key, make([]byte, 24)) {
			key = nil
		}
		keys = append(keys, key)
	}
	if !bytes.Equal(b[192:], make([]byte, 64)) {
		leave(api.ErrBad)
	}
	return keys
}

func (x *plain) load() {
	s := &x.p.Store
	for at := range 256 {
		s.Space = append(s.Space, unused)
		if at < firstBlock {
			s.Space[at] = used
		}
	}
	to, keys, many := x.readRoot()
	var blocks [][]byte
	for _, p := range append(slices.Clone(to), keys) {
		blocks = append(blocks, x.look(p))
		x.p.Meta = append(x.p.Meta, p.At)
	}
	lines, gone := readLines(blocks[:len(to)], many)
	x.p.Keys, x.p.Loaded = readKeys(blocks[len(to)]), make([][]byte, 8)
	for i, p := range gone {
		l, own := x.dead(p)
		lines[i].Dead = l
		x.p.Meta = append(x.p.Meta, own...)
		for _, p := range slices.Concat(l, x.walk(lines[i].Root)) {
			s.Space[p.At] = used
		}
	}
	x.p.Meta = append(x.p.Meta, x.p.Root.At)
	slices.Sort(x.p.Meta)
	for _, at := range x.p.Meta {
		s.Space[at] = used
	}
	x.p.Lines = lines
	if !plainMayBe(x.p) {
		leave(api.ErrBad)
	}
}

func plainLoad(d api.Disk, l api.Label) (api.Pool, api.Errno) {
	if !plainDisk(d) || !within(int(l.Gen), 1, mostTxg) || !within(int(l.Epoch), 1, mostEpoch) || l.Root == none || !plainPtr(l.Root) {
		return api.Pool{}, api.ErrBad
	}
	x := &plain{p: api.Pool{Store: api.Store{Disk: slowTwinDisk(d), Epoch: l.Epoch}, Gen: l.Gen, Root: l.Root}}
	if e := left(x.load); e != api.OK {
		return api.Pool{}, e
	}
	return x.p, api.OK
}
