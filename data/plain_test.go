package data_test

import (
	"bytes"
	"cmp"
	"fmt"
	"math/bits"
	"slices"

	"charterhouse/api"
	"charterhouse/txg"
)

// What stands here is chapter 20, and what it needs of those ahead of it, read plainly and without the project's packages, but for txg: a pool is checked and synced by that.

// The marks of a table, and the edges of numbers, as the document has them.
const (
	unused     = 0
	used       = 1
	later      = 2
	isHead     = 1
	isSnap     = 2
	head       = 15
	firstBlock = 12
	mostTxg    = 1<<24 - 1
	mostCount  = 65535
	mostSize   = 3840
	mostLines  = 16
)

var none = api.Ptr{}

// slowTurn turns four words, as chapter 2 says it, n times.
func slowTurn(x [4]uint32, n int) [4]uint32 {
	for range n {
		for _, by := range [][2]int{{15, 11}, {9, 6}} {
			x[0] += x[1]
			x[3] = bits.RotateLeft32(x[3]^x[0], by[0])
			x[2] += x[3]
			x[1] = bits.RotateLeft32(x[1]^x[2], by[1])
		}
	}
	return x
}

func slowNumber(b []byte) (n uint32) {
	for i, one := range b {
		n += uint32(one) << (8 * i)
	}
	return n
}

// slowBytes tells the lowest bytes of n, as many as long says.
func slowBytes(n uint32, long int) (b []byte) {
	for range long {
		b = append(b, byte(n%256))
		n /= 256
	}
	return b
}

func slowFour(b []byte) [4]uint32 {
	x, all := [4]uint32{1, 2, 3, 4}, append(bytes.Clone(b), 1)
	for len(all)%8 != 0 {
		all = append(all, 0)
	}
	for ; len(all) > 0; all = all[8:] {
		x[0] ^= slowNumber(all[:4])
		x[2] ^= slowNumber(all[4:8])
		x = slowTurn(x, 4)
	}
	x[1] ^= uint32(len(b))
	return slowTurn(x, 8)
}

func slowSum(b []byte) uint32 {
	return slowFour(b)[0]
}

func slowKey(parts ...[]byte) (k []byte) {
	for _, word := range slowFour(slices.Concat(parts...)) {
		k = append(k, slowBytes(word, 4)...)
	}
	return k
}

// slowCipher turns bytes by a key and a number; turned once more, they are what they were.
func slowCipher(k []byte, iv uint32, b []byte) []byte {
	b = bytes.Clone(b)
	for i := 0; i < len(b); i += 16 {
		for j, by := range slowKey(k, slowBytes(iv, 4), slowBytes(uint32(i/16), 4)) {
			b[i+j] ^= by
		}
	}
	return b
}

func slowMac(k, b []byte) uint32 {
	return slowSum(slices.Concat(k, []byte{2}, slowKey(k, []byte{1}, b)))
}

func slowTag(k []byte, iv uint32, made []byte) uint32 {
	return slowMac(k, append(slowBytes(iv, 4), made...))
}

func slowStretch(pass string, salt []byte) []byte {
	k := slowKey([]byte(pass), salt)
	for i := range 32 {
		k = slowKey(k, []byte{byte(i)}, []byte(pass))
	}
	return k
}

// slowMask hides a key, or shows it again.
func slowMask(stretched, key []byte) []byte {
	key = bytes.Clone(key)
	for i, by := range slowKey(stretched, []byte{1}) {
		key[i] ^= by
	}
	return key
}

// slowWrap tells the 24 bytes of a wrapped key.
func slowWrap(pass string, key []byte, salt uint32) []byte {
	stretched := slowStretch(pass, slowBytes(salt, 4))
	b := append(slowBytes(salt, 4), slowMask(stretched, key)...)
	return append(b, slowBytes(slowMac(stretched, b), 4)...)
}

func slowUnwrap(pass string, w []byte) ([]byte, api.Errno) {
	if len(pass) > 64 {
		return nil, api.ErrText
	}
	if len(w) != 24 {
		return nil, api.ErrBad
	}
	stretched := slowStretch(pass, w[:4])
	if slowNumber(w[20:]) != slowMac(stretched, w[:20]) {
		return nil, api.ErrPass
	}
	return slowMask(stretched, w[4:20]), api.OK
}

// seen is a block as it is seen.
func seen(d api.Disk, at int) []byte {
	for _, w := range slices.Backward(d.Waits) {
		if w.At == at {
			return w.Data
		}
	}
	return d.Blocks[at]
}

// plainBlock tells the block of a pointer that may be, and is not none.
func plainBlock(s api.Store, p api.Ptr) ([]byte, api.Errno) {
	b := seen(s.Disk, p.At)
	if slowSum(b) != p.Sum {
		return nil, api.ErrSum
	}
	return b, api.OK
}

// plainRow tells the pointers of a block, if it is a row.
func plainRow(b []byte) (l []api.Ptr, e api.Errno) {
	for ; len(b) > 0; b = b[16:] {
		p := api.Ptr{At: int(b[0]), Birth: slowNumber(b[1:4]), Iv: slowNumber(b[4:8]), Tag: slowNumber(b[8:12]), Sum: slowNumber(b[12:16])}
		if p != none && (p.At < firstBlock || p.Birth == 0) {
			return nil, api.ErrBad
		}
		l = append(l, p)
	}
	return l, api.OK
}

// plainObject tells object n below a root.
func plainObject(s api.Store, root api.Ptr, n int) (o api.Object, e api.Errno) {
	if root == none {
		return o, api.ErrNone
	}
	b, e := plainBlock(s, root)
	if e != api.OK {
		return o, e
	}
	row, e := plainRow(b)
	if e != api.OK {
		return o, e
	}
	if row[n] == none {
		return o, api.ErrNone
	}
	if b, e = plainBlock(s, row[n]); e != api.OK {
		return o, e
	}
	if row, e = plainRow(b[16:]); e != api.OK {
		return o, e
	}
	size := int(b[2]) + int(b[3])*256
	if b[0] < 1 || b[0] > 7 || size > mostSize || !bytes.Equal(b[4:16], make([]byte, 12)) {
		return o, api.ErrBad
	}
	return api.Object{Kind: b[0], Links: int(b[1]), Size: size, Data: row}, api.OK
}

// plainOpen tells what stands at a pointer that may be.
func plainOpen(s api.Store, p api.Ptr, key []byte) ([]byte, api.Errno) {
	if p == none {
		return make([]byte, 256), api.OK
	}
	b, e := plainBlock(s, p)
	if e != api.OK {
		return nil, e
	}
	if slowTag(key, p.Iv, b) != p.Tag {
		return nil, api.ErrTag
	}
	return slowCipher(key, p.Iv, b), api.OK
}

// plainLine tells a line, or the errors that all calls have but Create.
func plainLine(p api.Pool, id int) (api.Line, api.Errno) {
	if txg.Check(p) != api.OK {
		return api.Line{}, api.ErrBad
	}
	for _, l := range p.Lines {
		if l.Id == id {
			return l, api.OK
		}
	}
	return api.Line{}, api.ErrNone
}

// changeOf tells the change of a place; nil, if there is none.
func changeOf(p api.Pool, id, obj, index int) *api.Change {
	for i, c := range p.Changes {
		if c.Set == id && c.Obj == obj && c.Index == index {
			return &p.Changes[i]
		}
	}
	return nil
}

// plainHead tells a line's object, as it is.
func plainHead(p api.Pool, l api.Line, obj int) (k uint8, links, size int, e api.Errno) {
	if c := changeOf(p, l.Id, obj, head); c != nil {
		if c.Kind == 0 {
			return 0, 0, 0, api.ErrNone
		}
		return c.Kind, c.Links, c.Size, api.OK
	}
	o, e := plainObject(p.Store, l.Root, obj)
	return o.Kind, o.Links, o.Size, e
}

func plainCreate(p api.Pool, pass string, key []byte) (api.Pool, int, api.Errno) {
	if txg.Check(p) != api.OK {
		return api.Pool{}, 0, api.ErrBad
	}
	if len(key) != 16 || len(pass) > 64 {
		return api.Pool{}, 0, api.ErrText
	}
	k := 0
	for k < 8 && len(p.Keys[k]) > 0 {
		k++
	}
	if k == 8 || len(p.Lines) >= mostLines || p.NextId >= 256 || p.NextGuid > 4294967293 {
		return api.Pool{}, 0, api.ErrFull
	}
	p = slowTwin(p)
	id, guid := p.NextId, p.NextGuid
	p.Lines = append(p.Lines, api.Line{Id: id, Kind: isHead, Owner: id, Txg: p.Gen, Guid: guid, Key: k})
	p.Keys[k], p.Loaded[k] = slowWrap(pass, key, guid), []byte(string(key))
	p.NextId, p.NextGuid = id+1, guid+2
	p, e := txg.Sync(p)
	if e != api.OK {
		return api.Pool{}, 0, e
	}
	return p, id, api.OK
}

func plainLoad(p api.Pool, id int, pass string) (api.Pool, api.Errno) {
	l, e := plainLine(p, id)
	if e != api.OK {
		return api.Pool{}, e
	}
	key, e := slowUnwrap(pass, p.Keys[l.Key])
	if e != api.OK {
		return api.Pool{}, e
	}
	p = slowTwin(p)
	p.Loaded[l.Key] = key
	return p, api.OK
}

func plainUnload(p api.Pool, id int) (api.Pool, api.Errno) {
	l, e := plainLine(p, id)
	if e != api.OK {
		return api.Pool{}, e
	}
	if len(p.Loaded[l.Key]) == 0 {
		return api.Pool{}, api.ErrKey
	}
	if p, e = txg.Sync(p); e == api.OK {
		p.Loaded[l.Key] = nil
	}
	return p, e
}

func plainGet(p api.Pool, id, obj int) (k uint8, links, size int, e api.Errno) {
	l, e := plainLine(p, id)
	if e != api.OK {
		return 0, 0, 0, e
	}
	if obj < 0 || obj > 15 {
		return 0, 0, 0, api.ErrArg
	}
	return plainHead(p, l, obj)
}

func plainRead(p api.Pool, id, obj, index int) ([]byte, api.Errno) {
	l, e := plainLine(p, id)
	if e != api.OK {
		return nil, e
	}
	if obj < 0 || obj > 15 || index < 0 || index > 14 {
		return nil, api.ErrArg
	}
	key := p.Loaded[l.Key]
	if len(key) == 0 {
		return nil, api.ErrKey
	}
	if _, _, _, e := plainHead(p, l, obj); e != api.OK {
		return nil, e
	}
	at := none
	if c := changeOf(p, id, obj, index); c != nil {
		if len(c.Data) > 0 {
			return c.Data, api.OK
		}
		at = c.Laid
	} else {
		o, e := plainObject(p.Store, l.Root, obj)
		if e != api.OK && e != api.ErrNone {
			return nil, e
		}
		if e == api.OK {
			at = o.Data[index]
		}
	}
	return plainOpen(p.Store, at, key)
}

// plainPut puts a change: one that was there goes, and its Laid is given up.
func plainPut(p *api.Pool, c api.Change) api.Errno {
	if was := changeOf(*p, c.Set, c.Obj, c.Index); was != nil {
		if was.Laid != none {
			if p.Store.Space[was.Laid.At] != used {
				return api.ErrNone
			}
			p.Store.Space[was.Laid.At] = later
		}
		*was = c
		return api.OK
	}
	p.Changes = append(p.Changes, c)
	slices.SortFunc(p.Changes, func(a, b api.Change) int {
		return cmp.Compare(a.Set<<8+a.Obj<<4+a.Index, b.Set<<8+b.Obj<<4+b.Index)
	})
	return api.OK
}

func plainPuts(p api.Pool, all []api.Change) (api.Pool, api.Errno) {
	p = slowTwin(p)
	for _, c := range all {
		if e := plainPut(&p, c); e != api.OK {
			return api.Pool{}, e
		}
	}
	return p, api.OK
}

func plainEdit(p api.Pool, id, obj, index int, b []byte) (api.Pool, api.Errno) {
	l, e := plainLine(p, id)
	if e != api.OK {
		return api.Pool{}, e
	}
	if l.Kind == isSnap {
		return api.Pool{}, api.ErrFrozen
	}
	if obj < 0 || obj > 15 || index < 0 || index > 14 {
		return api.Pool{}, api.ErrArg
	}
	if len(b) > 256 {
		return api.Pool{}, api.ErrText
	}
	if len(p.Loaded[l.Key]) == 0 {
		return api.Pool{}, api.ErrKey
	}
	if _, _, _, e := plainHead(p, l, obj); e != api.OK {
		return api.Pool{}, e
	}
	c := api.Change{Set: id, Obj: obj, Index: index}
	if len(b) > 0 {
		c.Data = make([]byte, 256)
		copy(c.Data, b)
	}
	return plainPuts(p, []api.Change{c})
}

func plainSet(p api.Pool, id, obj int, kind uint8, links, size int) (api.Pool, api.Errno) {
	l, e := plainLine(p, id)
	if e != api.OK {
		return api.Pool{}, e
	}
	if l.Kind == isSnap {
		return api.Pool{}, api.ErrFrozen
	}
	if obj < 0 || obj > 15 || kind > 7 || links < 0 || links > 255 || size < 0 || size > mostSize || kind == 0 && (links != 0 || size != 0) {
		return api.Pool{}, api.ErrArg
	}
	if len(p.Loaded[l.Key]) == 0 {
		return api.Pool{}, api.ErrKey
	}
	all := []api.Change{{Set: id, Obj: obj, Index: head, Kind: kind, Links: links, Size: size}}
	if kind > 0 {
		return plainPuts(p, all)
	}
	if _, _, _, e := plainHead(p, l, obj); e != api.OK {
		return api.Pool{}, e
	}
	o, e := plainObject(p.Store, l.Root, obj)
	if e != api.OK && e != api.ErrNone {
		return api.Pool{}, e
	}
	for index := range 15 {
		if changeOf(p, id, obj, index) != nil || e == api.OK && o.Data[index] != none {
			all = append(all, api.Change{Set: id, Obj: obj, Index: index})
		}
	}
	return plainPuts(p, all)
}

// slowTwinDisk keeps nothing of d, not even its room to spare.
func slowTwinDisk(d api.Disk) (out api.Disk) {
	for _, b := range d.Blocks {
		out.Blocks = append(out.Blocks, []byte(string(b)))
	}
	for _, w := range d.Waits {
		out.Waits = append(out.Waits, api.Write{At: w.At, Data: []byte(string(w.Data))})
	}
	return out
}

func slowTwin(p api.Pool) api.Pool {
	p.Store.Disk = slowTwinDisk(p.Store.Disk)
	p.Store.Space = []byte(string(p.Store.Space))
	p.Meta = append([]int(nil), p.Meta...)
	p.Lines = append([]api.Line(nil), p.Lines...)
	for i := range p.Lines {
		p.Lines[i].Dead = append([]api.Ptr(nil), p.Lines[i].Dead...)
	}
	p.Changes = append([]api.Change(nil), p.Changes...)
	for i := range p.Changes {
		p.Changes[i].Data = []byte(string(p.Changes[i].Data))
	}
	keys := func(of [][]byte) (to [][]byte) {
		for _, key := range of {
			to = append(to, []byte(string(key)))
		}
		return to
	}
	p.Keys, p.Loaded = keys(p.Keys), keys(p.Loaded)
	return p
}

func sameDisk(a, b api.Disk) bool {
	return slices.EqualFunc(a.Blocks, b.Blocks, bytes.Equal) &&
		slices.EqualFunc(a.Waits, b.Waits, func(a, b api.Write) bool { return a.At == b.At && bytes.Equal(a.Data, b.Data) })
}

// differ tells in what p is not want; nothing, if they are the same. A list without elements may be nil or not.
func differ(p, want api.Pool) string {
	told := func(p api.Pool) [][2]string {
		return [][2]string{
			{"Epoch, Count", fmt.Sprint(p.Store.Epoch, p.Store.Count)},
			{"Space", fmt.Sprint(p.Store.Space)},
			{"Gen, Root", fmt.Sprint(p.Gen, p.Root)},
			{"Meta", fmt.Sprint(p.Meta)},
			{"Lines", fmt.Sprint(p.Lines)},
			{"Keys, Loaded", fmt.Sprint(len(p.Keys), p.Keys, len(p.Loaded), p.Loaded)},
			{"Changes", fmt.Sprint(p.Changes)},
			{"Logged", fmt.Sprint(p.Logged)},
			{"NextId, NextGuid", fmt.Sprint(p.NextId, p.NextGuid)},
		}
	}
	b := told(want)
	for i, a := range told(p) {
		if a != b[i] {
			return fmt.Sprintf("%s: %s; want %s", a[0], a[1], b[i][1])
		}
	}
	if !sameDisk(p.Store.Disk, want.Store.Disk) {
		return fmt.Sprintf("another disk, on which %d writes wait; want %d", len(p.Store.Disk.Waits), len(want.Store.Disk.Waits))
	}
	return ""
}

func isZero(p api.Pool) bool {
	return len(p.Store.Disk.Blocks)+len(p.Store.Disk.Waits)+len(p.Store.Space) == 0 && differ(p, api.Pool{}) == ""
}
