package seal_test

import (
	"bytes"
	"encoding/hex"
	"sync"
	"testing"

	"charterhouse/api"
	"charterhouse/cipher"
	"charterhouse/mac"
	"charterhouse/seal"
)

const mostNumber = 1<<32 - 1

// rising is a text of n bytes, no two beside each other alike.
func rising(n int) []byte {
	text := make([]byte, n)
	for i := range text {
		text[i] = byte(i*37 + 11)
	}
	return text
}

// keys are those whose bytes are all 0, all the greatest, and all unlike.
func keys() [][]byte {
	return [][]byte{make([]byte, 16), bytes.Repeat([]byte{255}, 16), rising(16)}
}

// wrongKeys are none, by their lengths.
func wrongKeys() [][]byte {
	wrong := [][]byte{nil, rising(255), rising(256), rising(1<<16 + 16)}
	for long := range 50 {
		if long != 16 {
			wrong = append(wrong, rising(long), make([]byte, long))
		}
	}
	return wrong
}

// numbers are the least one, the greatest, one of four unlike bytes, and such as stand where bytes or bits are turned.
func numbers() []uint32 {
	return []uint32{0, 1, 255, 256, 65535, 65536, 0x01020304, 0x04030201, 1<<31 - 1, 1 << 31, mostNumber}
}

// lengths are those about the ends of a piece of the stream and of a piece of the sum, and the greatest one.
func lengths() []int {
	return []int{0, 1, 2, 3, 4, 7, 8, 11, 12, 15, 16, 17, 31, 32, 33, 127, 128, 254, 255, 256}
}

// longLengths are too great, also where their lowest bits are those of such as may be, or a stream may be so long.
func longLengths() []int {
	return []int{257, 258, 272, 511, 512, 4095, 4096, 4097, 1 << 16, 1<<16 + 16, 1 << 20}
}

// unhex panics where a test's own text is wrong.
func unhex(text string) []byte {
	b, err := hex.DecodeString(text)
	if err != nil {
		panic(err)
	}
	return b
}

// join lays texts into memory that has no room to spare, so that the tests do not lean on what they try.
func join(parts ...[]byte) []byte {
	return []byte(string(bytes.Join(parts, nil)))
}

// slowTag lays the number's bytes by hand.
func slowTag(key []byte, iv uint32, made []byte) uint32 {
	number := []byte{byte(iv), byte(iv / 256), byte(iv / 65536), byte(iv / 16777216)}
	tag, e := mac.Tag(join(key), join(number, made))
	if e != api.OK {
		panic(e)
	}
	return tag
}

func slowSeal(key []byte, iv uint32, plain []byte) ([]byte, uint32) {
	made, e := cipher.Stream(join(key), iv, len(plain))
	if e != api.OK {
		panic(e)
	}
	for i := range made {
		made[i] ^= plain[i]
	}
	return made, slowTag(key, iv, made)
}

func wantSeal(t *testing.T, key []byte, iv uint32, plain, want []byte, wantTag uint32, e api.Errno) {
	t.Helper()
	if made, tag, got := seal.Seal(key, iv, plain); !bytes.Equal(made, want) || tag != wantTag || got != e {
		t.Errorf("Seal(%x, %08x, %x) = %x, %08x, %d; want %x, %08x, %d", key, iv, plain, made, tag, got, want, wantTag, e)
	}
}

func wantOpen(t *testing.T, key []byte, iv uint32, made []byte, tag uint32, want []byte, e api.Errno) {
	t.Helper()
	if plain, got := seal.Open(key, iv, made, tag); !bytes.Equal(plain, want) || got != e {
		t.Errorf("Open(%x, %08x, %x, %08x) = %x, %d; want %x, %d", key, iv, made, tag, plain, got, want, e)
	}
}

// wantBoth asks that plain is sealed as made, with tag, and that these are opened as plain.
func wantBoth(t *testing.T, key []byte, iv uint32, plain, made []byte, tag uint32) {
	t.Helper()
	wantSeal(t, key, iv, plain, made, tag, api.OK)
	wantOpen(t, key, iv, made, tag, plain, api.OK)
}

// wantSame asks that a list is still what it was.
func wantSame(t *testing.T, what string, list, want []byte) {
	t.Helper()
	if !bytes.Equal(list, want) {
		t.Errorf("%q: is %x; want %x", what, list, want)
	}
}

// These and the ones below were reckoned apart from this program, with the numbers 0, 01020304 and ffffffff.
func TestP61Sealed(t *testing.T) {
	text := []byte("a text that is longer than two pieces are, by far")
	for i, row := range [][3]struct {
		made string
		tag  uint32
	}{
		{
			{"40d285471877b557b007fe2fbc87ab1660aa46c9cc05e26b04df52762439ef8c7dbabfa30144bf5a0cefd087e0cf90c896", 0x057aad50},
			{"798dee9bc3894714eb5683ab96e7893402786d876a453c72430338a576f0cb52ba5b3505760747b30f0f4ff325301140d7", 0x2b5ff684},
			{"de6d0272a92fce51817311fb3e63d0bd4f681040855f3ee2248f00eb22db6814aae768588d39e3bbfed02d90610c49c659", 0x7a3f7436},
		},
		{
			{"db5fbf7da09e36694b008097ffae5da65c278cb62a73d58a8766d6557975642844ac7bc287b8537d3f7bc14bc61bee21c1", 0x63a4b0de},
			{"33edbc1d695815232b827b3b67c844ea0e12dd947c16625d5151564153ce09b8785c629da5a687186288c4f162b7032cb7", 0xe5c4dba7},
			{"0ea5dde2ac0eddd056ac9fe2e73e1ecc3b489b1bbadaaac9999f9cf1b1dcb7d7aab3c02e5b11c93527894a0bacd9097374", 0x96efc125},
		},
		{
			{"8cce79346673b224069e58e4ddbb51efeb0e8e45dca97fa8062e752182e7932462b1011cd532ba204ec063db2119b46c2e", 0xe21b0daf},
			{"ccbc24af762436ffcbf19abbe0b557ea747262acdf135e1f45c1d51ddcfde7a27af6d8166930759c2caa860559f7cdfb7f", 0xeb4fe126},
			{"04b811006717386db1cc82322d74970f777264cf7deb75c3da1de6a13bf05ae2b72a8e41369df331060ac98e5eb399808e", 0x6212ba0f},
		},
	} {
		for j, iv := range []uint32{0, 0x01020304, mostNumber} {
			wantBoth(t, keys()[i], iv, text, unhex(row[j].made), row[j].tag)
		}
	}
}

// The tags of rising texts, sealed by each key and each number, at the lengths about which pieces end.
func TestP61Tags(t *testing.T) {
	for _, c := range []struct {
		long int
		tags [3][3]uint32
	}{
		{0, [3][3]uint32{{0x4af01819, 0x951d5e70, 0x252b917c}, {0x040c467b, 0x78d49eeb, 0xf17dff6c}, {0xc39e5315, 0x1cf6e2fa, 0x48800c72}}},
		{1, [3][3]uint32{{0x650fac5a, 0x3bade569, 0x88f15c75}, {0x46934c74, 0x50b0de81, 0x4c22e4fe}, {0xb1765cc7, 0xf2ab75dc, 0x7a0c3520}}},
		{3, [3][3]uint32{{0xb5cb70f7, 0xda92c5ec, 0x73270d65}, {0xcff7b346, 0xe67bfb8f, 0xe2f3f50e}, {0x383d116e, 0xbd1dd4a4, 0x6681286a}}},
		{4, [3][3]uint32{{0xacbf3053, 0xfbdae8b5, 0xfd83cf56}, {0xdfd10c07, 0x1b554ef0, 0x55888657}, {0x97da6fa5, 0x26f04f5b, 0xe58188e9}}},
		{11, [3][3]uint32{{0x48bfb57d, 0xadd247b3, 0x73218ab8}, {0xa8c2680c, 0xed8a2960, 0xf02eda65}, {0x59843a71, 0x1f772c3f, 0x4a8a5fef}}},
		{12, [3][3]uint32{{0x69287be2, 0xb3dfc202, 0x7ae5509c}, {0x19723170, 0x4cb7f938, 0xcb2cbf75}, {0x53c8e8ca, 0x89aa9bae, 0x92d6f7e9}}},
		{15, [3][3]uint32{{0x00c122db, 0xb8867d32, 0x9da5d2a1}, {0x1e60e48b, 0x16fa6cde, 0xeb3b69a5}, {0xe9672eca, 0x52eccc5a, 0xdb1d5984}}},
		{16, [3][3]uint32{{0xe1437987, 0xc6ba2974, 0x77442a8e}, {0x08107b04, 0xd03a11e0, 0xe7bc4275}, {0xb79ed9b3, 0x632879eb, 0x63d6664b}}},
		{17, [3][3]uint32{{0xeb9ca8a2, 0xf43ee713, 0x0575b1b4}, {0x50e94b07, 0x89d14aeb, 0x707427e0}, {0xed4062d1, 0x6af41f3e, 0x0ba01657}}},
		{255, [3][3]uint32{{0x6cc27496, 0x5179bc73, 0xc1e005b4}, {0x9407409e, 0xc4e00439, 0xae754bad}, {0xa4104ebb, 0xe67ec7cd, 0xf8ae98fa}}},
		{256, [3][3]uint32{{0xddcbe768, 0xfecc9bd2, 0x7487cb27}, {0x4913aae6, 0x49de9d33, 0xad0b1eba}, {0x92acfb6a, 0x904e36d4, 0xc05ce76c}}},
	} {
		for i, key := range keys() {
			for j, iv := range []uint32{0, 0x01020304, mostNumber} {
				made, tag, e := seal.Seal(key, iv, rising(c.long))
				if len(made) != c.long || tag != c.tags[i][j] || e != api.OK {
					t.Errorf("Seal(%x, %08x, of %d bytes) = %x, %08x, %d; want %08x", key, iv, c.long, made, tag, e, c.tags[i][j])
				}
				wantOpen(t, key, iv, made, c.tags[i][j], rising(c.long), api.OK)
			}
		}
	}
}

func TestP61Steps(t *testing.T) {
	for _, key := range keys() {
		for _, iv := range numbers() {
			for _, long := range lengths() {
				for _, plain := range [][]byte{rising(long), make([]byte, long), bytes.Repeat([]byte{255}, long)} {
					made, tag := slowSeal(key, iv, plain)
					wantBoth(t, key, iv, plain, made, tag)
				}
			}
		}
	}
}

func TestP61EachLength(t *testing.T) {
	for long := range 257 {
		made, tag := slowSeal(rising(16), 0x01020304, rising(long))
		wantBoth(t, rising(16), 0x01020304, rising(long), made, tag)
	}
}

// A text without bytes has a tag too, be it nil or not.
func TestP61NoBytes(t *testing.T) {
	for _, key := range keys() {
		for _, iv := range numbers() {
			tag := slowTag(key, iv, nil)
			wantBoth(t, key, iv, nil, nil, tag)
			wantBoth(t, key, iv, []byte{}, []byte{}, tag)
			wantOpen(t, key, iv, nil, tag^1, nil, api.ErrTag)
			wantOpen(t, key, iv, []byte{}, tag^1<<31, nil, api.ErrTag)
		}
	}
}

// The tag is of the number and of what the cipher made, and not of what was sealed.
func TestP61TagIsOfWhatWasMade(t *testing.T) {
	for _, key := range keys() {
		for _, iv := range numbers() {
			plain := rising(33)
			made, right := slowSeal(key, iv, plain)
			bare, _ := mac.Tag(key, made)
			for _, tag := range []uint32{0, slowTag(key, iv, plain), bare} {
				if tag != right {
					wantOpen(t, key, iv, made, tag, nil, api.ErrTag)
				}
			}
			wantOpen(t, key, iv, made, right, plain, api.OK)
		}
	}
}

func TestP61WrongKey(t *testing.T) {
	for _, key := range wrongKeys() {
		for _, iv := range numbers() {
			for _, long := range lengths() {
				wantSeal(t, key, iv, rising(long), nil, 0, api.ErrArg)
				wantOpen(t, key, iv, rising(long), 0, nil, api.ErrArg)
				wantOpen(t, key, iv, rising(long), slowTag(rising(16), iv, rising(long)), nil, api.ErrArg)
			}
			wantSeal(t, key, iv, nil, nil, 0, api.ErrArg)
			wantOpen(t, key, iv, nil, 0, nil, api.ErrArg)
		}
	}
}

// Of a text that is too long the tag counts for nothing, though it is right.
func TestP61TextTooLong(t *testing.T) {
	for _, long := range longLengths() {
		for _, key := range keys() {
			for _, text := range [][]byte{rising(long), make([]byte, long)} {
				wantSeal(t, key, 7, text, nil, 0, api.ErrText)
				wantOpen(t, key, 7, text, slowTag(key, 7, text), nil, api.ErrText)
				wantOpen(t, key, 7, text, 0, nil, api.ErrText)
			}
		}
	}
}

// A wrong key is told ahead of a text that is too long.
func TestP61KeyIsFirst(t *testing.T) {
	for _, key := range wrongKeys() {
		for _, long := range []int{257, 4096, 4097, 1 << 16} {
			wantSeal(t, key, 7, make([]byte, long), nil, 0, api.ErrArg)
			wantOpen(t, key, 7, make([]byte, long), 0, nil, api.ErrArg)
		}
	}
}

// Each bit of the tag counts, and so do all of them at once.
func TestP61OtherTags(t *testing.T) {
	for _, key := range keys() {
		for _, long := range lengths() {
			made, tag := slowSeal(key, 7, rising(long))
			for bit := range 32 {
				wantOpen(t, key, 7, made, tag^1<<bit, nil, api.ErrTag)
			}
			wantOpen(t, key, 7, made, ^tag, nil, api.ErrTag)
			wantOpen(t, key, 7, made, tag+1, nil, api.ErrTag)
			wantOpen(t, key, 7, made, tag-1, nil, api.ErrTag)
		}
	}
}

// wantShut asks that none of this is opened. (That another key, number or text has another tag holds for these here, and is not promised of others.)
func wantShut(t *testing.T, key []byte, iv uint32, made []byte, tag uint32) {
	t.Helper()
	wantOpen(t, key, iv, made, tag, nil, api.ErrTag)
}

func TestP61EachBitCounts(t *testing.T) {
	for _, long := range lengths() {
		key := rising(16)
		made, tag := slowSeal(key, 7, rising(long))
		for bit := range 32 {
			wantShut(t, key, 7^1<<bit, made, tag)
		}
		for bit := range 8 {
			for i := range key {
				key[i] ^= 1 << bit
				wantShut(t, key, 7, made, tag)
				key[i] ^= 1 << bit
			}
			for i := range made {
				made[i] ^= 1 << bit
				wantShut(t, key, 7, made, tag)
				made[i] ^= 1 << bit
			}
		}
		wantOpen(t, key, 7, made, tag, rising(long), api.OK)
	}
}

// More bytes, fewer, and the same in another order are others.
func TestP61OtherTexts(t *testing.T) {
	made, tag := slowSeal(rising(16), 7, rising(40))
	for long := range 40 {
		wantShut(t, rising(16), 7, made[:long], tag)
		wantShut(t, rising(16), 7, made[40-long:], tag)
		wantShut(t, rising(16), 7, join(made, make([]byte, long+1)), tag)
		wantShut(t, rising(16), 7, join(make([]byte, long+1), made), tag)
	}
	for at := range 39 {
		wantShut(t, rising(16), 7, join(made[at+1:], made[:at+1]), tag)
	}
	wantShut(t, rising(16), 7, nil, tag)
	wantOpen(t, rising(16), 7, made, tag, rising(40), api.OK)
}

// Bytes beyond a list's end are none of it, though there is room for them.
func TestP61SpareRoom(t *testing.T) {
	wantSeal(t, rising(32)[:15], 7, rising(16), nil, 0, api.ErrArg)
	wantOpen(t, rising(32)[:15], 7, rising(16), 0, nil, api.ErrArg)
	for _, fill := range []byte{0, 1, 255} {
		spare := bytes.Repeat([]byte{fill}, 5000)
		key := append(rising(16), spare...)[:16]
		for _, long := range lengths() {
			made, tag := slowSeal(rising(16), 7, rising(long))
			wantSeal(t, key, 7, append(rising(long), spare...)[:long], made, tag, api.OK)
			wantOpen(t, key, 7, append(join(made), spare...)[:long], tag, rising(long), api.OK)
		}
	}
}

func TestP62OnlyReads(t *testing.T) {
	for _, keyLong := range []int{0, 15, 16, 17, 32} {
		for _, long := range append(lengths(), 257, 5000) {
			key, text := rising(64), rising(6000)
			seal.Seal(key[:keyLong], 7, text[:long])
			seal.Open(key[:keyLong], 7, text[:long], 0)
			seal.Open(key[:keyLong], 7, text[:long], slowTag(rising(16), 7, text[:long]))
			wantSame(t, "a key and what is behind", key, rising(64))
			wantSame(t, "a text and what is behind", text, rising(6000))
		}
	}
}

// spoil turns all bytes of a list, those of its spare room too.
func spoil(list []byte) {
	wide := list[:cap(list)]
	for i := range wide {
		wide[i] ^= 255
	}
}

func TestP62SealIsNewMemory(t *testing.T) {
	for _, long := range lengths() {
		key, plain := rising(80), rising(5000)
		want, tag := slowSeal(rising(16), 7, rising(long))
		a, _, _ := seal.Seal(key[:16], 7, plain[:long])
		b, _, _ := seal.Seal(key[:16], 7, plain[:long])
		spoil(a)
		wantSame(t, "a key", key, rising(80))
		wantSame(t, "a text", plain, rising(5000))
		wantSame(t, "another answer of Seal", b, want)
		spoil(key)
		spoil(plain)
		wantSame(t, "an answer whose key and text are turned", b, want)
		wantBoth(t, rising(16), 7, rising(long), want, tag)
	}
}

func TestP62OpenIsNewMemory(t *testing.T) {
	for _, long := range lengths() {
		made, tag := slowSeal(rising(16), 7, rising(long))
		key, text := rising(80), join(made, rising(5000))
		a, _ := seal.Open(key[:16], 7, text[:long], tag)
		b, _ := seal.Open(key[:16], 7, text[:long], tag)
		spoil(a)
		wantSame(t, "a key", key, rising(80))
		wantSame(t, "a text", text, join(made, rising(5000)))
		wantSame(t, "another answer of Open", b, rising(long))
		spoil(key)
		spoil(text)
		wantSame(t, "an answer whose key and text are turned", b, rising(long))
		wantBoth(t, rising(16), 7, rising(long), made, tag)
	}
}

// A key may be a piece of the text that it seals or opens.
func TestP62KeyWithinTheText(t *testing.T) {
	for at := range 33 {
		for _, long := range []int{0, 1, 16, 17, 48, 49} {
			room, key := rising(49), rising(49)[at:at+16]
			made, tag := slowSeal(key, 7, rising(long))
			wantSeal(t, room[at:at+16], 7, room[:long], made, tag, api.OK)
			wantOpen(t, room[at:at+16], 7, room[:long], slowTag(key, 7, rising(long)), made, api.OK)
			wantSame(t, "a key and its text", room, rising(49))
		}
	}
}

func TestP63SealedIsOpened(t *testing.T) {
	for _, key := range keys() {
		for _, iv := range numbers() {
			for long := range 257 {
				made, tag, e := seal.Seal(key, iv, rising(long))
				if len(made) != long || e != api.OK {
					t.Fatalf("Seal(%x, %08x, of %d bytes) = %x, %08x, %d", key, iv, long, made, tag, e)
				}
				wantOpen(t, key, iv, made, tag, rising(long), api.OK)
			}
		}
	}
}

// Bytes that no call sealed are opened, if their tag is right: and just these are made again.
func TestP63OpenedIsSealed(t *testing.T) {
	for _, key := range keys() {
		for _, iv := range numbers() {
			for _, long := range lengths() {
				for _, made := range [][]byte{rising(long), make([]byte, long), bytes.Repeat([]byte{255}, long)} {
					tag := slowTag(key, iv, made)
					plain, e := seal.Open(key, iv, made, tag)
					if len(plain) != long || e != api.OK {
						t.Fatalf("Open(%x, %08x, %x, %08x) = %x, %d", key, iv, made, tag, plain, e)
					}
					wantSeal(t, key, iv, plain, made, tag, api.OK)
				}
			}
		}
	}
}

func TestP63EachByte(t *testing.T) {
	for place := range 33 {
		for n := range 256 {
			plain := make([]byte, 33)
			plain[place] = byte(n)
			made, tag, e := seal.Seal(rising(16), uint32(n)<<16, plain)
			if e != api.OK {
				t.Fatalf("Seal of %x: %d", plain, e)
			}
			wantOpen(t, rising(16), uint32(n)<<16, made, tag, plain, api.OK)
		}
	}
}

// Two unlike texts that one key and one number seal with one tag, found by a search: each is opened as itself.
func TestP63OneTagOfTwo(t *testing.T) {
	const tag = 0x49c22bb2
	for _, c := range []struct{ plain, made string }{
		{"p136572", "0e4efd0a11fa5c"},
		{"p210729", "0e4dff0c13ff57"},
	} {
		wantBoth(t, rising(16), 7, []byte(c.plain), unhex(c.made), tag)
	}
	wantOpen(t, rising(16), 7, unhex("0e4dff0c13ff58"), tag, nil, api.ErrTag)
}

func TestExamples(t *testing.T) {
	made, tag, _ := seal.Seal(rising(16), 7, []byte("abc"))
	wantOpen(t, rising(16), 7, made, tag, []byte("abc"), api.OK)
	wantOpen(t, rising(16), 7, made, tag+1, nil, api.ErrTag)
	wantSeal(t, rising(16), 7, rising(257), nil, 0, api.ErrText)
	wantSeal(t, rising(15), 7, []byte("abc"), nil, 0, api.ErrArg)
}

// Calls with everything that may be wrong, in all pairs, end, and tell nothing beside an error. (That none of these tags is right holds for these here, and is not promised of others.)
func TestR1AllEnd(t *testing.T) {
	texts := [][]byte{nil, {}}
	for _, long := range append(lengths(), 257, 4097, 1<<16) {
		texts = append(texts, rising(long))
	}
	for _, key := range append(wrongKeys(), keys()...) {
		for _, iv := range []uint32{0, 7, 1 << 31, mostNumber} {
			for _, text := range texts {
				made, tag, e := seal.Seal(key, iv, text)
				if e != api.OK && (made != nil || tag != 0) || e == api.OK && len(made) != len(text) {
					t.Errorf("Seal(%x, %08x, %x) = %x, %08x, %d", key, iv, text, made, tag, e)
				}
				for _, tag := range []uint32{0, 1, 1 << 31, mostNumber} {
					if plain, e := seal.Open(key, iv, text, tag); e == api.OK || plain != nil {
						t.Errorf("Open(%x, %08x, %x, %08x) = %x, %d", key, iv, text, tag, plain, e)
					}
				}
			}
		}
	}
}

// What was asked before, or is asked at the same time, counts for nothing.
func TestR2ArgumentsAlone(t *testing.T) {
	ask := func() {
		for _, key := range keys() {
			for _, iv := range numbers() {
				for _, long := range lengths()[:12] {
					made, tag := slowSeal(key, iv, rising(long))
					wantSeal(t, key[:15], iv, rising(long), nil, 0, api.ErrArg)
					wantBoth(t, key, iv, rising(long), made, tag)
					wantOpen(t, key, iv, made, tag^1, nil, api.ErrTag)
					wantOpen(t, key, iv, rising(257), tag, nil, api.ErrText)
					wantOpen(t, key, iv, made, tag, rising(long), api.OK)
				}
			}
		}
	}
	var all sync.WaitGroup
	for range 8 {
		all.Add(1)
		go func() {
			defer all.Done()
			ask()
		}()
	}
	all.Wait()
	ask()
}
