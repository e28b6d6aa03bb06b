package mount_test

import (
	"bytes"
	"fmt"
	"math/bits"
	"slices"

	"charterhouse/api"
	"charterhouse/log"
	"charterhouse/txg"
)

// What stands here is chapter 19, read plainly: labels, and what a crash leaves, without the project's packages. Only what the chapter names by the calls of others is asked of them.

// The marks of a table, and the edges of numbers, as the document has them.
const (
	unused     = 0
	used       = 1
	later      = 2
	isHead     = 1
	isSnap     = 2
	head       = 15
	logFirst   = 4
	logBlocks  = 8
	firstBlock = 12
	mostTxg    = 1<<24 - 1
	mostEpoch  = 65535
	mostCount  = 65535
)

var none = api.Ptr{}

// slowTurn turns four words, as chapter 2 says it, n times.
func slowTurn(x [4]uint32, n int) [4]uint32 {
	for range n {
		for _, by := range [][2]int{{15, 11}, {9, 6}} {
			x[0] += x[1]
			x[3] = bits.RotateLeft32(x[3]^x[0], by[0])
			x[2] += x[3]
			x[1] = bits.RotateLeft32(x[1]^x[2], by[1])
		}
	}
	return x
}

func slowNumber(b []byte) (n uint32) {
	for i, one := range b {
		n += uint32(one) << (8 * i)
	}
	return n
}

// slowBytes tells the lowest bytes of n, as many as long says.
func slowBytes(n uint32, long int) (b []byte) {
	for range long {
		b = append(b, byte(n%256))
		n /= 256
	}
	return b
}

func slowSum(b []byte) uint32 {
	x, all := [4]uint32{1, 2, 3, 4}, append(bytes.Clone(b), 1)
	for len(all)%8 != 0 {
		all = append(all, 0)
	}
	for ; len(all) > 0; all = all[8:] {
		x[0] ^= slowNumber(all[:4])
		x[2] ^= slowNumber(all[4:8])
		x = slowTurn(x, 4)
	}
	x[1] ^= uint32(len(b))
	return slowTurn(x, 8)[0]
}

// filled has noughts behind it, up to a block.
func filled(b []byte) []byte {
	return append(bytes.Clone(b), make([]byte, 256-len(b))...)
}

// summed has its sum behind it, and noughts up to a block.
func summed(b []byte) []byte {
	return filled(append(bytes.Clone(b), slowBytes(slowSum(b), 4)...))
}

func slowPtr(p api.Ptr) []byte {
	return slices.Concat([]byte{byte(p.At)}, slowBytes(p.Birth, 3), slowBytes(p.Iv, 4), slowBytes(p.Tag, 4), slowBytes(p.Sum, 4))
}

// slowLabel tells a label's block.
func slowLabel(l api.Label) []byte {
	return summed(slices.Concat([]byte{67}, slowBytes(l.Gen, 4), slowBytes(l.Epoch, 4), slowPtr(l.Root)))
}

// slowLog tells a block of the log, the first and only one of a commit.
func slowLog(gen uint32, changes ...api.Change) []byte {
	b := slices.Concat([]byte{76}, slowBytes(gen, 4), []byte{0, byte(changes[0].Set), byte(len(changes)), 1})
	for _, c := range changes {
		b = append(b, byte(c.Obj), byte(c.Index))
		if c.Index == head {
			b = append(b, c.Kind, byte(c.Links), byte(c.Size%256), byte(c.Size/256))
			b = append(b, make([]byte, 12)...)
			continue
		}
		b = append(b, slowPtr(c.Laid)...)
	}
	return summed(b)
}

// slowRoot tells the root's block of a pool without lines, whose own blocks stand from first on.
func slowRoot(guid uint32, gen uint32, first int) []byte {
	nothing := api.Ptr{At: first, Birth: gen, Sum: slowSum(make([]byte, 256))}
	keys := nothing
	keys.At++
	return filled(slices.Concat([]byte{82, 1, 0}, slowBytes(guid, 4), make([]byte, 9), slowPtr(nothing), make([]byte, 48), slowPtr(keys)))
}

// plainBare is a pool without lines, that was formatted and then opened so many times, byte by byte.
func plainBare(side, openings int) (p api.Pool) {
	for range 256 {
		p.Store.Disk.Blocks = append(p.Store.Disk.Blocks, make([]byte, 256))
	}
	p.NextId, p.NextGuid = 1, uint32(1+side)
	p.Keys, p.Loaded = make([][]byte, 8), make([][]byte, 8)
	first := firstBlock
	for n := range openings + 1 {
		first = 12 + n%2*3
		p.Gen, p.Store.Epoch = uint32(n+1), uint32(1+side+2*n)
		root := slowRoot(p.NextGuid, p.Gen, first)
		p.Root = api.Ptr{At: first + 2, Birth: p.Gen, Sum: slowSum(root)}
		p.Store.Disk.Blocks[first+2] = root
		p.Store.Disk.Blocks[(n+1)%4] = slowLabel(api.Label{Gen: p.Gen, Epoch: p.Store.Epoch, Root: p.Root})
	}
	p.Meta = []int{first, first + 1, first + 2}
	p.Store.Space = make([]byte, 256)
	for at := range p.Store.Space {
		if at < firstBlock || slices.Contains(p.Meta, at) {
			p.Store.Space[at] = used
		}
	}
	return p
}

// seen is a block as it is seen.
func seen(d api.Disk, at int) []byte {
	for _, w := range slices.Backward(d.Waits) {
		if w.At == at {
			return w.Data
		}
	}
	return d.Blocks[at]
}

// left is what a crash leaves: of the writes that wait those whose mark is true, one behind the other.
func left(d api.Disk, keep []bool) (out api.Disk) {
	out.Blocks = slowTwinDisk(d).Blocks
	for i, w := range d.Waits {
		if keep[i] {
			copy(out.Blocks[w.At], w.Data)
		}
	}
	return out
}

// plainLabels tells the labels that stand on a disk, the greatest Gen first.
func plainLabels(d api.Disk) (all []api.Label) {
	for slot := range 4 {
		b := seen(d, slot)
		l := api.Label{
			Gen:   slowNumber(b[1:5]),
			Epoch: slowNumber(b[5:9]),
			Root:  api.Ptr{At: int(b[9]), Birth: slowNumber(b[10:13]), Iv: slowNumber(b[13:17]), Tag: slowNumber(b[17:21]), Sum: slowNumber(b[21:25])},
		}
		may := l.Gen >= 1 && l.Gen <= mostTxg && int(l.Gen%4) == slot && l.Epoch >= 1 && l.Epoch <= mostEpoch && l.Root.At >= firstBlock
		if may && bytes.Equal(b, slowLabel(l)) {
			all = append(all, l)
		}
	}
	slices.SortFunc(all, func(a, b api.Label) int { return int(b.Gen) - int(a.Gen) })
	return all
}

// plainLasting tells the pool of the first label whose pool is there and whose log is replayed, with its log, ahead of its sync.
func plainLasting(d api.Disk) (api.Pool, api.Errno) {
	for _, l := range plainLabels(d) {
		if p, e := txg.Load(slowTwinDisk(d), l); e == api.OK {
			if p, e = log.Replay(p); e == api.OK {
				return p, api.OK
			}
		}
	}
	return api.Pool{}, api.ErrDisk
}

// plainOpen tells the pool of a disk that may be.
func plainOpen(d api.Disk) (api.Pool, api.Errno) {
	p, e := plainLasting(d)
	if e != api.OK {
		return api.Pool{}, e
	}
	if p.Store.Epoch+2 > mostEpoch {
		return api.Pool{}, api.ErrFull
	}
	p.Store.Epoch += 2
	return txg.Sync(p)
}

// slowTwinDisk keeps nothing of d, not even its room to spare.
func slowTwinDisk(d api.Disk) (out api.Disk) {
	for _, b := range d.Blocks {
		out.Blocks = append(out.Blocks, []byte(string(b)))
	}
	for _, w := range d.Waits {
		out.Waits = append(out.Waits, api.Write{At: w.At, Data: []byte(string(w.Data))})
	}
	return out
}

func slowTwin(p api.Pool) api.Pool {
	p.Store.Disk = slowTwinDisk(p.Store.Disk)
	p.Store.Space = []byte(string(p.Store.Space))
	p.Meta = append([]int(nil), p.Meta...)
	p.Lines = append([]api.Line(nil), p.Lines...)
	for i := range p.Lines {
		p.Lines[i].Dead = append([]api.Ptr(nil), p.Lines[i].Dead...)
	}
	p.Changes = append([]api.Change(nil), p.Changes...)
	for i := range p.Changes {
		p.Changes[i].Data = []byte(string(p.Changes[i].Data))
	}
	keys := func(of [][]byte) (to [][]byte) {
		for _, key := range of {
			to = append(to, []byte(string(key)))
		}
		return to
	}
	p.Keys, p.Loaded = keys(p.Keys), keys(p.Loaded)
	return p
}

func sameDisk(a, b api.Disk) bool {
	return slices.EqualFunc(a.Blocks, b.Blocks, bytes.Equal) &&
		slices.EqualFunc(a.Waits, b.Waits, func(a, b api.Write) bool { return a.At == b.At && bytes.Equal(a.Data, b.Data) })
}

// differ tells in what p is not want; nothing, if they are the same. A list without elements may be nil or not.
func differ(p, want api.Pool) string {
	told := func(p api.Pool) [][2]string {
		return [][2]string{
			{"Epoch, Count", fmt.Sprint(p.Store.Epoch, p.Store.Count)},
			{"Space", fmt.Sprint(p.Store.Space)},
			{"Gen, Root", fmt.Sprint(p.Gen, p.Root)},
			{"Meta", fmt.Sprint(p.Meta)},
			{"Lines", fmt.Sprint(p.Lines)},
			{"Keys, Loaded", fmt.Sprint(len(p.Keys), p.Keys, len(p.Loaded), p.Loaded)},
			{"Changes", fmt.Sprint(p.Changes)},
			{"Logged", fmt.Sprint(p.Logged)},
			{"NextId, NextGuid", fmt.Sprint(p.NextId, p.NextGuid)},
		}
	}
	b := told(want)
	for i, a := range told(p) {
		if a != b[i] {
			return fmt.Sprintf("%s: %s; want %s", a[0], a[1], b[i][1])
		}
	}
	if !sameDisk(p.Store.Disk, want.Store.Disk) {
		return fmt.Sprintf("another disk, on which %d writes wait; want %d", len(p.Store.Disk.Waits), len(want.Store.Disk.Waits))
	}
	return ""
}

func isZero(p api.Pool) bool {
	return len(p.Store.Disk.Blocks)+len(p.Store.Disk.Waits)+len(p.Store.Space) == 0 && differ(p, api.Pool{}) == ""
}
