package mac_test

import (
	"bytes"
	"testing"

	"charterhouse/api"
	"charterhouse/mac"
	"charterhouse/mix"
)

// rising is a text of n bytes, no two beside each other alike.
func rising(n int) []byte {
	text := make([]byte, n)
	for i := range text {
		text[i] = byte(i*37 + 11)
	}
	return text
}

// keys are those whose bytes are all 0, all the greatest, and all unlike.
func keys() [][]byte {
	return [][]byte{make([]byte, 16), bytes.Repeat([]byte{255}, 16), rising(16)}
}

// slowTag joins its texts byte by byte, so that the tests do not lean on what they try.
func slowTag(key, b []byte) uint32 {
	var first, second []byte
	for _, one := range key {
		first, second = append(first, one), append(second, one)
	}
	first, second = append(first, 1), append(second, 2)
	for _, one := range b {
		first = append(first, one)
	}
	for _, one := range mix.Key(first) {
		second = append(second, one)
	}
	return mix.Sum(second)
}

func wantTag(t *testing.T, key, b []byte, want uint32, e api.Errno) {
	t.Helper()
	if tag, got := mac.Tag(key, b); tag != want || got != e {
		t.Errorf("Tag(%v, %v) = %08x, %d; want %08x, %d", key, b, tag, got, want, e)
	}
}

// The tags were reckoned apart from this program. The lengths are those at which, behind key and one byte, a piece of the sum begins, is nearly full, and is full; and a block's.
func TestP31Tags(t *testing.T) {
	for _, c := range []struct {
		long int
		tags [3]uint32
	}{
		{0, [3]uint32{0xf95b800c, 0xb67213e7, 0xe5d86ae3}},
		{1, [3]uint32{0x5cc9da2c, 0xd7907c48, 0x24fadfbb}},
		{6, [3]uint32{0xd8f67bc1, 0x646da212, 0xf0d73e8c}},
		{7, [3]uint32{0xd4cbcedb, 0xa303efc5, 0xb1109735}},
		{8, [3]uint32{0x5eeaa668, 0xbbe456fd, 0x06c65d0c}},
		{14, [3]uint32{0x66465f20, 0x8ac02404, 0xd134f9e7}},
		{15, [3]uint32{0xfc23e015, 0xb931d84d, 0x4572aeb7}},
		{16, [3]uint32{0xf39a332f, 0xbc9767d5, 0xd0f98b97}},
		{22, [3]uint32{0xcaf2ded5, 0xe22e83c5, 0xf48e1888}},
		{23, [3]uint32{0x8070f059, 0xbca66de3, 0xf4b52ec1}},
		{24, [3]uint32{0xa38c4a16, 0xeccb781d, 0xc1191db3}},
		{255, [3]uint32{0x28dd3d1d, 0x74983881, 0x8d49dc22}},
		{256, [3]uint32{0xefdc46de, 0x707d0c8b, 0x96e6bba9}},
		{257, [3]uint32{0xd3b6f8bf, 0x83fcd9c0, 0x88b668c0}},
	} {
		for i, key := range keys() {
			wantTag(t, key, rising(c.long), c.tags[i], api.OK)
		}
	}
	wantTag(t, make([]byte, 16), []byte("abc"), 0xda645181, api.OK)
}

func TestP31TagSteps(t *testing.T) {
	for _, key := range keys() {
		for long := range 300 {
			wantTag(t, key, rising(long), slowTag(key, rising(long)), api.OK)
			wantTag(t, key, make([]byte, long), slowTag(key, make([]byte, long)), api.OK)
		}
		long := rising(1 << 17)
		if tag, e := mac.Tag(key, long); tag != slowTag(key, long) || e != api.OK {
			t.Errorf("Tag by %v of %d bytes = %08x, %d", key, len(long), tag, e)
		}
	}
}

func TestP31NoBytes(t *testing.T) {
	wantTag(t, make([]byte, 16), nil, 0xf95b800c, api.OK)
	wantTag(t, make([]byte, 16), []byte{}, 0xf95b800c, api.OK)
}

func TestP31WrongKeys(t *testing.T) {
	for _, long := range []int{0, 1, 8, 15, 17, 24, 31, 32, 33, 256, 1 << 16} {
		wantTag(t, rising(long), nil, 0, api.ErrArg)
		wantTag(t, make([]byte, long), []byte("abc"), 0, api.ErrArg)
	}
	wantTag(t, nil, nil, 0, api.ErrArg)
	wantTag(t, nil, []byte("abc"), 0, api.ErrArg)
	wantTag(t, []byte{}, make([]byte, 16), 0, api.ErrArg)
}

// Bytes beyond a list's end are none of it, though there is room for them.
func TestP31SpareRoom(t *testing.T) {
	wantTag(t, rising(32)[:15], nil, 0, api.ErrArg)
	for _, fill := range []byte{0, 1, 2, 255} {
		key := append(rising(16), bytes.Repeat([]byte{fill}, 40)...)
		for long := range 20 {
			text := append(rising(long), bytes.Repeat([]byte{fill}, 20)...)
			wantTag(t, key[:16], text[:long], slowTag(rising(16), rising(long)), api.OK)
		}
	}
}

// No bit is left out of the sums. That all tags are unlike holds for these texts, and is not promised of others.
func TestP31EachBitCounts(t *testing.T) {
	seen := map[uint32]bool{}
	key, text := rising(16), rising(20)
	tell := func() {
		tag, e := mac.Tag(key, text)
		if e != api.OK || seen[tag] {
			t.Errorf("Tag(%v, %v) = %08x, %d: another one's", key, text, tag, e)
		}
		seen[tag] = true
	}
	tell()
	for _, list := range [][]byte{key, text} {
		for i := range list {
			for bit := range 8 {
				list[i] ^= 1 << bit
				tell()
				list[i] ^= 1 << bit
			}
		}
	}
}

func TestP32OnlyReads(t *testing.T) {
	for _, size := range []int{0, 15, 16, 17} {
		for long := range 34 {
			key, text := rising(60), rising(50)
			mac.Tag(key[:size], text[:long])
			if !bytes.Equal(key, rising(60)) || !bytes.Equal(text, rising(50)) {
				t.Errorf("Tag by %d bytes of %d bytes turned what it was handed into %v, %v", size, long, key, text)
			}
		}
	}
}

// Key and text may lie in one piece of memory, also the text in the key's spare room, or across it.
func TestP32OneMemory(t *testing.T) {
	for from := range 20 {
		room := rising(60)
		wantTag(t, room[:16], room[from:40], slowTag(rising(16), rising(60)[from:40]), api.OK)
		if !bytes.Equal(room, rising(60)) {
			t.Errorf("text from %d on: what was handed in became %v", from, room)
		}
	}
}

func TestP33OneTextOneTag(t *testing.T) {
	for _, key := range keys() {
		for long := range 34 {
			first, _ := mac.Tag(key, rising(long))
			mac.Tag(rising(16), []byte("another one, between"))
			wantTag(t, bytes.Clone(key), rising(long), first, api.OK)
		}
	}
}

// Two texts that are unlike, but have one inner key by rising(16): found by a search.
func alike() ([]byte, []byte) {
	a := append([]byte("charter"), 26, 39, 214, 20, 56, 167, 255, 47, 104, 97, 114, 98, 111, 117, 114, 32)
	b := append([]byte("charter"), 251, 150, 212, 202, 107, 189, 92, 214, 106, 28, 9, 128, 243, 104, 191, 129)
	return a, b
}

func innerKey(key, b []byte) []byte {
	return mix.Key([]byte(string(key) + "\x01" + string(b)))
}

func TestP33InnerKeyAlone(t *testing.T) {
	key := rising(16)
	a, b := alike()
	if bytes.Equal(a, b) || !bytes.Equal(innerKey(key, a), innerKey(key, b)) {
		t.Fatalf("%v and %v are not what this test asks for", a, b)
	}
	wantTag(t, key, a, 0x0241e260, api.OK)
	wantTag(t, key, b, 0x0241e260, api.OK)
	// By another key their inner keys are unlike.
	wantTag(t, make([]byte, 16), a, 0x6a95a100, api.OK)
	wantTag(t, make([]byte, 16), b, 0xb3c3fd83, api.OK)
}
