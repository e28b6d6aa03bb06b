package cipher_test

import (
	"bytes"
	"encoding/hex"
	"math"
	"sync"
	"testing"

	"charterhouse/api"
	"charterhouse/cipher"
	"charterhouse/mix"
)

const mostNumber = 1<<32 - 1

// rising is a text of n bytes, no two beside each other alike.
func rising(n int) []byte {
	text := make([]byte, n)
	for i := range text {
		text[i] = byte(i*37 + 11)
	}
	return text
}

// keys are those whose bytes are all 0, all the greatest, and all unlike.
func keys() [][]byte {
	return [][]byte{make([]byte, 16), bytes.Repeat([]byte{255}, 16), rising(16)}
}

// wrongKeys are none, by their lengths.
func wrongKeys() [][]byte {
	wrong := [][]byte{nil, rising(255), rising(256), rising(1<<16 + 16)}
	for long := range 50 {
		if long != 16 {
			wrong = append(wrong, rising(long), make([]byte, long))
		}
	}
	return wrong
}

// numbers are the least one, the greatest, one of four unlike bytes, and such as stand where bytes or bits are turned.
func numbers() []uint32 {
	return []uint32{0, 1, 255, 256, 65535, 65536, 0x01020304, 0x04030201, 1<<31 - 1, 1 << 31, mostNumber}
}

// lengths are those about a piece's end, a stream's beginning, and the greatest one.
func lengths() []int {
	return []int{0, 1, 2, 15, 16, 17, 31, 32, 33, 47, 48, 49, 255, 256, 257, 2048, 4079, 4080, 4081, 4095, 4096}
}

// wrongLengths are too small and too great, also where their lowest bits are those of such as may be.
func wrongLengths() []int {
	return []int{-1, -2, -16, -4096, -4097, 4097, 4098, 4112, 8192, 1 << 16, 1<<16 + 16, math.MinInt32, math.MaxInt32, math.MinInt, math.MinInt + 16, math.MaxInt}
}

// unhex panics where a test's own text is wrong.
func unhex(text string) []byte {
	b, err := hex.DecodeString(text)
	if err != nil {
		panic(err)
	}
	return b
}

func fourBytes(n uint32) []byte {
	return []byte{byte(n), byte(n / 256), byte(n / 65536), byte(n / 16777216)}
}

// join lays texts into memory that has no room to spare, so that the tests do not lean on what they try.
func join(parts ...[]byte) []byte {
	return []byte(string(bytes.Join(parts, nil)))
}

// slowStream makes whole pieces, more than are needed, and cuts them behind.
func slowStream(key []byte, iv uint32, n int) []byte {
	var all []byte
	for j := 0; j <= n/16; j++ {
		all = append(all, mix.Key(join(key, fourBytes(iv), fourBytes(uint32(j))))...)
	}
	return join(all[:n])
}

func slowTurn(key []byte, iv uint32, b []byte) []byte {
	turned := slowStream(key, iv, len(b))
	for i := range turned {
		turned[i] ^= b[i]
	}
	return turned
}

func wantStream(t *testing.T, key []byte, iv uint32, n int, want []byte, e api.Errno) {
	t.Helper()
	if b, got := cipher.Stream(key, iv, n); !bytes.Equal(b, want) || got != e {
		t.Errorf("Stream(%x, %08x, %d) = %x, %d; want %x, %d", key, iv, n, b, got, want, e)
	}
}

func wantTurn(t *testing.T, key []byte, iv uint32, b, want []byte, e api.Errno) {
	t.Helper()
	if turned, got := cipher.Turn(key, iv, b); !bytes.Equal(turned, want) || got != e {
		t.Errorf("Turn(%x, %08x, %x) = %x, %d; want %x, %d", key, iv, b, turned, got, want, e)
	}
}

// These and the ones below were reckoned apart from this program, with the numbers 0, 01020304 and ffffffff.
func TestP51Streamed(t *testing.T) {
	for i, want := range [][3]string{
		{
			"21f2f12260039523d8668a0fd5f48b7a0fc421acbe25960365b172025356cffc14dfdcc67264de28",
			"18ad9afebbfd67608337f78bff94a9586d160ae21865481a226d18d1019feb22d33e5660052726c1",
			"bf4d7617d15bee25e91265db5710f0d120067725f77f4a8a45e1209f55b44864c3820b3dfe1982c9",
		},
		{
			"ba7fcb18d8ea161d2361f4b796dd7dca3349ebd35853a1e2e608f6210e1a44582dc918a7f498320f",
			"52cdc878112c355743e30f1b0ebb6486617cbaf10e361635303f763524a129c8113901f8d686e66a",
			"6f85a987d47afda43ecdebc28e4d3ea05426fc7ec8fadea1f8f1bc85c6b397a7c3d6a34b2831a847",
		},
		{
			"edee0d511e0792506eff2cc4b4c871838460e920ae890bc067405555f588b3540bd46279a612db52",
			"ad9c50ca0e50168ba390ee9b89c677861b1c05c9ad332a7724aff569ab92c7d21393bb731a1014ee",
			"659865651f631819d9adf6124407b763181c03aa0fcb01abbb73c6d54c9f7a92de4fed2445bd9243",
		},
	} {
		for j, iv := range []uint32{0, 0x01020304, mostNumber} {
			for n := range 41 {
				wantStream(t, keys()[i], iv, n, unhex(want[j])[:n], api.OK)
			}
		}
	}
}

// Of the longest streams: the piece 17, the last piece, and the key of all of it.
func TestP51StreamedFar(t *testing.T) {
	for i, want := range [][3][3]string{
		{
			{"785e90b293009c711e2e0616bbd1ac90", "75e3c10e9fee460b3ba9482e0e872644", "0799eb9f5e500c440c614f262b265fb9"},
			{"f90c5187cf43a0c4f97e6a260b948908", "8ecafef551eef060179a1a10367606dd", "467fefea800608eefe861550f0600e07"},
			{"9a9140478a4f57159dac361be0496d5d", "47cd6736e749762510ac555ef3073e56", "f3debfe7df2307200a09749ebc8eed96"},
		},
		{
			{"690b6eb9ee8511ac0bdac4519dacb42f", "b326b3711f275fff2de93357213f0201", "52bd8c1e366eab14c86aa4e34d3e0784"},
			{"830918f0734b1cf507261a2fae45adda", "aedfd8d2fd600287fd699937c9bf4d3a", "d5fcf3f4047bd6ddaf6f3ce447471b50"},
			{"ee233642bb5345be320d169ddf680c4c", "e067013b8acca15c51eb6b896cd4e436", "e768aa15e5c51f96dc1014d765606fd0"},
		},
		{
			{"f6c9d7180122dd06dfd81af7525295eb", "c600dcb6f4613dbf3338296db2d96da0", "ce5a13dade23a43cb24c8ac7374c9cca"},
			{"f072634c4582ca0f720673ca5a44687e", "77f055eb7aceb33b4526cf163febb555", "421ad2521121b2123d3e3ea4687012cd"},
			{"98381362cbb3bfed93a0b101e7238e20", "738b50d5543cd83ec4498cbe1c9af07c", "50090e1c2246110b0b4e6e49efb049cf"},
		},
	} {
		for j, iv := range []uint32{0, 0x01020304, mostNumber} {
			b, e := cipher.Stream(keys()[i], iv, 4096)
			if len(b) != 4096 || e != api.OK {
				t.Fatalf("Stream(%x, %08x, 4096): %d bytes, %d", keys()[i], iv, len(b), e)
			}
			wantSame(t, "piece 17", b[17*16:18*16], unhex(want[j][0]))
			wantSame(t, "the last piece", b[255*16:], unhex(want[j][1]))
			wantSame(t, "the key of all", mix.Key(b), unhex(want[j][2]))
		}
	}
}

func TestP51StreamSteps(t *testing.T) {
	for _, key := range keys() {
		for _, iv := range numbers() {
			for _, n := range lengths() {
				wantStream(t, key, iv, n, slowStream(key, iv, n), api.OK)
			}
		}
	}
}

func TestP51EachLength(t *testing.T) {
	all := slowStream(rising(16), 0x01020304, 4096)
	for n := range 4097 {
		wantStream(t, rising(16), 0x01020304, n, all[:n], api.OK)
	}
}

func TestP51WrongLength(t *testing.T) {
	for _, key := range keys() {
		for _, iv := range numbers() {
			for _, n := range wrongLengths() {
				wantStream(t, key, iv, n, nil, api.ErrArg)
			}
		}
	}
}

func TestP51WrongKey(t *testing.T) {
	for _, key := range wrongKeys() {
		for _, iv := range numbers() {
			for _, n := range append(lengths(), wrongLengths()...) {
				wantStream(t, key, iv, n, nil, api.ErrArg)
			}
			wantTurn(t, key, iv, nil, nil, api.ErrArg)
			wantTurn(t, key, iv, rising(16), nil, api.ErrArg)
			wantTurn(t, key, iv, rising(4096), nil, api.ErrArg)
		}
	}
}

func TestP51Turned(t *testing.T) {
	text := "a text that is longer than two pieces are, by far"
	for i, want := range []string{
		"798dee9bc3894714eb5683ab96e7893402786d876a453c72430338a576f0cb52ba5b3505760747b30f0f4ff325301140d7",
		"33edbc1d695815232b827b3b67c844ea0e12dd947c16625d5151564153ce09b8785c629da5a687186288c4f162b7032cb7",
		"ccbc24af762436ffcbf19abbe0b557ea747262acdf135e1f45c1d51ddcfde7a27af6d8166930759c2caa860559f7cdfb7f",
	} {
		for n := range len(text) + 1 {
			wantTurn(t, keys()[i], 0x01020304, []byte(text[:n]), unhex(want)[:n], api.OK)
		}
	}
}

func TestP51TurnSteps(t *testing.T) {
	for _, key := range keys() {
		for _, iv := range numbers() {
			for _, long := range lengths() {
				for _, b := range [][]byte{rising(long), make([]byte, long), bytes.Repeat([]byte{255}, long)} {
					wantTurn(t, key, iv, b, slowTurn(key, iv, b), api.OK)
				}
			}
			wantTurn(t, key, iv, nil, nil, api.OK)
		}
	}
}

// Noughts become the stream, and the stream noughts.
func TestP51TurnIsByTheStream(t *testing.T) {
	for _, key := range keys() {
		for _, iv := range numbers() {
			for _, long := range lengths() {
				stream := slowStream(key, iv, long)
				wantTurn(t, key, iv, make([]byte, long), stream, api.OK)
				wantTurn(t, key, iv, stream, make([]byte, long), api.OK)
			}
		}
	}
}

func TestP51TextTooLong(t *testing.T) {
	for _, long := range []int{4097, 4098, 4112, 8192, 1 << 16, 1<<16 + 16, 1 << 20} {
		for _, key := range keys() {
			wantTurn(t, key, 7, rising(long), nil, api.ErrText)
			wantTurn(t, key, 0, make([]byte, long), nil, api.ErrText)
		}
	}
}

// A wrong key is told ahead of a text that is too long.
func TestP51KeyIsFirst(t *testing.T) {
	for _, key := range wrongKeys() {
		for _, long := range []int{4097, 1 << 16} {
			wantTurn(t, key, 7, make([]byte, long), nil, api.ErrArg)
		}
	}
}

// Bytes beyond a list's end are none of it, though there is room for them.
func TestP51SpareRoom(t *testing.T) {
	wantStream(t, rising(32)[:15], 7, 16, nil, api.ErrArg)
	wantTurn(t, rising(32)[:15], 7, rising(16), nil, api.ErrArg)
	for _, fill := range []byte{0, 1, 255} {
		spare := bytes.Repeat([]byte{fill}, 5000)
		key := append(rising(16), spare...)[:16]
		for _, n := range lengths() {
			wantStream(t, key, 7, n, slowStream(rising(16), 7, n), api.OK)
			wantTurn(t, key, 7, append(rising(n), spare...)[:n], slowTurn(rising(16), 7, rising(n)), api.OK)
		}
	}
}

// No bit of a key or of a number is left out, in no piece. (That all of these are unlike holds for them, and is not promised of others.)
func TestP51EachBitCounts(t *testing.T) {
	seen := map[string]bool{}
	tell := func(key []byte, iv uint32) {
		b, e := cipher.Stream(key, iv, 64)
		if len(b) != 64 || e != api.OK {
			t.Fatalf("Stream(%x, %08x, 64) = %x, %d", key, iv, b, e)
		}
		for ; len(b) > 0; b = b[16:] {
			if seen[string(b[:16])] {
				t.Errorf("Stream(%x, %08x, 64) has another one's %x", key, iv, b[:16])
			}
			seen[string(b[:16])] = true
		}
	}
	key := rising(16)
	tell(key, 0)
	for bit := range 32 {
		tell(key, 1<<bit)
	}
	for i := range key {
		for bit := range 8 {
			key[i] ^= 1 << bit
			tell(key, 0)
			key[i] ^= 1 << bit
		}
	}
}

// wantSame asks that a list is still what it was.
func wantSame(t *testing.T, what string, list, want []byte) {
	t.Helper()
	if !bytes.Equal(list, want) {
		t.Errorf("%q: is %x; want %x", what, list, want)
	}
}

func TestP52OnlyReads(t *testing.T) {
	for _, keyLong := range []int{0, 15, 16, 17, 32} {
		for _, long := range append(lengths(), 4097, 5000) {
			key, text := rising(64), rising(6000)
			cipher.Stream(key[:keyLong], 7, long)
			cipher.Turn(key[:keyLong], 7, text[:long])
			wantSame(t, "a key and what is behind", key, rising(64))
			wantSame(t, "a text and what is behind", text, rising(6000))
		}
	}
}

// spoil turns all bytes of a list, those of its spare room too.
func spoil(list []byte) {
	wide := list[:cap(list)]
	for i := range wide {
		wide[i] ^= 255
	}
}

func TestP52StreamIsNewMemory(t *testing.T) {
	for _, n := range lengths() {
		room, want := rising(80), slowStream(rising(16), 7, n)
		a, _ := cipher.Stream(room[:16], 7, n)
		b, _ := cipher.Stream(room[:16], 7, n)
		spoil(a)
		wantSame(t, "a key whose stream is turned", room, rising(80))
		wantSame(t, "another answer of Stream", b, want)
		spoil(room)
		wantSame(t, "an answer whose key is turned", b, want)
		wantStream(t, rising(16), 7, n, want, api.OK)
	}
}

func TestP52TurnIsNewMemory(t *testing.T) {
	for _, long := range lengths() {
		key, text, want := rising(80), rising(5000), slowTurn(rising(16), 7, rising(long))
		a, _ := cipher.Turn(key[:16], 7, text[:long])
		b, _ := cipher.Turn(key[:16], 7, text[:long])
		spoil(a)
		wantSame(t, "a key", key, rising(80))
		wantSame(t, "a text", text, rising(5000))
		wantSame(t, "another answer of Turn", b, want)
		spoil(key)
		spoil(text)
		wantSame(t, "an answer whose key and text are turned", b, want)
		wantTurn(t, rising(16), 7, rising(long), want, api.OK)
	}
}

// A key may be a piece of the text that it turns.
func TestP52KeyWithinTheText(t *testing.T) {
	for at := range 33 {
		for _, long := range []int{0, 1, 16, 17, 48, 49} {
			room := rising(49)
			wantTurn(t, room[at:at+16], 7, room[:long], slowTurn(rising(49)[at:at+16], 7, rising(long)), api.OK)
			wantSame(t, "a key and its text", room, rising(49))
		}
	}
}

func TestP53TurnedTwice(t *testing.T) {
	for _, key := range keys() {
		for _, iv := range numbers() {
			for _, long := range lengths() {
				turned, e := cipher.Turn(key, iv, rising(long))
				if len(turned) != long || e != api.OK {
					t.Fatalf("Turn(%x, %08x, of %d bytes) = %x, %d", key, iv, long, turned, e)
				}
				wantTurn(t, key, iv, turned, rising(long), api.OK)
			}
		}
	}
}

func TestP53EachByte(t *testing.T) {
	for place := range 33 {
		for n := range 256 {
			b := make([]byte, 33)
			b[place] = byte(n)
			turned, e := cipher.Turn(rising(16), uint32(n)<<16, b)
			if e != api.OK {
				t.Fatalf("Turn of %x: %d", b, e)
			}
			wantTurn(t, rising(16), uint32(n)<<16, turned, b, api.OK)
		}
	}
}

// Another number, or another key, does not turn back. (That holds for these, and is not promised of others.)
func TestP53OthersDoNot(t *testing.T) {
	turned, _ := cipher.Turn(rising(16), 7, []byte("abc"))
	for _, iv := range numbers() {
		if b, e := cipher.Turn(rising(16), iv, turned); string(b) == "abc" || e != api.OK {
			t.Errorf("by the number %08x: %q, %d", iv, b, e)
		}
	}
	for _, key := range keys()[:2] {
		if b, e := cipher.Turn(key, 7, turned); string(b) == "abc" || e != api.OK {
			t.Errorf("by the key %x: %q, %d", key, b, e)
		}
	}
}

func TestP53FewerBeginMore(t *testing.T) {
	for _, key := range keys() {
		for _, iv := range numbers() {
			most, _ := cipher.Stream(key, iv, 4096)
			turned, _ := cipher.Turn(key, iv, rising(4096))
			if len(most) != 4096 || len(turned) != 4096 {
				t.Fatalf("by %x and %08x: %d and %d bytes", key, iv, len(most), len(turned))
			}
			for _, n := range lengths() {
				wantStream(t, key, iv, n, most[:n], api.OK)
				wantTurn(t, key, iv, rising(n), turned[:n], api.OK)
			}
		}
	}
}

func TestExamples(t *testing.T) {
	wantStream(t, rising(16), 7, 0, nil, api.OK)
	wantStream(t, rising(16), 7, 4097, nil, api.ErrArg)
	wantStream(t, rising(15), 7, 16, nil, api.ErrArg)
	turned, _ := cipher.Turn(rising(16), 7, []byte("abc"))
	wantTurn(t, rising(16), 7, turned, []byte("abc"), api.OK)
}

// Calls with everything that may be wrong, in all pairs, end, and tell nothing beside an error.
func TestR1AllEnd(t *testing.T) {
	for _, key := range append(wrongKeys(), keys()...) {
		for _, iv := range []uint32{0, 7, 1 << 31, mostNumber} {
			for _, n := range append(lengths(), wrongLengths()...) {
				if b, e := cipher.Stream(key, iv, n); e != api.OK && b != nil || e == api.OK && len(b) != n {
					t.Errorf("Stream(%x, %08x, %d) = %x, %d", key, iv, n, b, e)
				}
			}
			for _, b := range [][]byte{nil, {}, rising(1), rising(16), rising(4096), rising(4097), rising(1 << 16)} {
				if turned, e := cipher.Turn(key, iv, b); e != api.OK && turned != nil || e == api.OK && len(turned) != len(b) {
					t.Errorf("Turn(%x, %08x, %x) = %x, %d", key, iv, b, turned, e)
				}
			}
		}
	}
}

// What was asked before, or is asked at the same time, counts for nothing.
func TestR2ArgumentsAlone(t *testing.T) {
	ask := func() {
		for _, key := range keys() {
			for _, iv := range numbers() {
				for _, n := range lengths()[:12] {
					wantStream(t, key, iv, n, slowStream(key, iv, n), api.OK)
					wantStream(t, key, iv, -n-1, nil, api.ErrArg)
					wantTurn(t, key, iv, rising(n), slowTurn(key, iv, rising(n)), api.OK)
					wantTurn(t, key[:15], iv, rising(n), nil, api.ErrArg)
				}
			}
		}
	}
	var all sync.WaitGroup
	for range 8 {
		all.Add(1)
		go func() {
			defer all.Done()
			ask()
		}()
	}
	all.Wait()
	ask()
}
