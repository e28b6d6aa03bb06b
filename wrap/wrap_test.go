package wrap_test

import (
	"bytes"
	"encoding/hex"
	"strings"
	"sync"
	"testing"

	"charterhouse/api"
	"charterhouse/mac"
	"charterhouse/mix"
	"charterhouse/wrap"
)

const most = 1<<32 - 1

// rising is a text of n bytes, no two beside each other alike.
func rising(n int) []byte {
	text := make([]byte, n)
	for i := range text {
		text[i] = byte(i*37 + 11)
	}
	return text
}

// salts are the least one, the greatest, one of four unlike bytes, and two whose bytes or bits stand turned.
func salts() []uint32 {
	return []uint32{0, 1, 0x01020304, 0x04030201, 1 << 31, most}
}

// keys are those whose bytes are all 0, all the greatest, and all unlike.
func keys() [][]byte {
	return [][]byte{make([]byte, 16), bytes.Repeat([]byte{255}, 16), rising(16)}
}

// passes are as short and as long as may be, and such as hold noughts, bytes that are no characters, and characters of more than one byte.
func passes() []string {
	return []string{
		"", "p", "P", " p", "p ", "p\n", "\x00", "p\x00", "\x00p", "\xff", "\xff\xfe\x80", "\ufffd", "\u00e9", "e\u0301",
		strings.Repeat("\x00", 64), strings.Repeat("\xff", 64), strings.Repeat("\u00e9", 32),
		string(rising(8)), string(rising(63)), string(rising(64)),
	}
}

// tooLong are of more than 64 bytes, also where their characters are no more, and where what is too much is blank.
func tooLong() []string {
	return []string{
		string(rising(65)), string(rising(66)), string(rising(128)), string(rising(1 << 16)),
		strings.Repeat("\x00", 65), strings.Repeat(" ", 65), strings.Repeat("p", 64) + "\n",
		strings.Repeat("\u00e9", 33), strings.Repeat("\u20ac", 22), strings.Repeat("\U0001f511", 17),
	}
}

// unhex panics where a test's own text is wrong.
func unhex(text string) []byte {
	b, err := hex.DecodeString(text)
	if err != nil {
		panic(err)
	}
	return b
}

func fourBytes(n uint32) []byte {
	return []byte{byte(n), byte(n / 256), byte(n / 65536), byte(n / 16777216)}
}

// join lays texts into memory that has no room to spare, so that the tests do not lean on what they try.
func join(parts ...[]byte) []byte {
	return []byte(string(bytes.Join(parts, nil)))
}

func slowStretch(pass string, salt uint32) []byte {
	came := mix.Key(join([]byte(pass), fourBytes(salt)))
	for i := byte(0); i < 32; i++ {
		came = mix.Key(join(came, []byte{i}, []byte(pass)))
	}
	return came
}

// slowMask tells key, masked or shown by a passphrase and a salt.
func slowMask(pass string, key []byte, salt uint32) []byte {
	mask := mix.Key(join(slowStretch(pass, salt), []byte{1}))
	for i := range mask {
		mask[i] ^= key[i]
	}
	return mask
}

// slowSign lays behind salt and middle the tag that they have by pass.
func slowSign(pass string, salt uint32, middle []byte) []byte {
	ahead := join(fourBytes(salt), middle)
	tag, _ := mac.Tag(slowStretch(pass, salt), ahead)
	return join(ahead, fourBytes(tag))
}

func slowWrap(pass string, key []byte, salt uint32) []byte {
	return slowSign(pass, salt, slowMask(pass, key, salt))
}

func wantStretch(t *testing.T, pass string, salt uint32, want []byte, e api.Errno) {
	t.Helper()
	if b, got := wrap.Stretch(pass, salt); !bytes.Equal(b, want) || got != e {
		t.Errorf("Stretch(%q, %08x) = %x, %d; want %x, %d", pass, salt, b, got, want, e)
	}
}

func wantWrap(t *testing.T, pass string, key []byte, salt uint32, want []byte, e api.Errno) {
	t.Helper()
	if b, got := wrap.Wrap(pass, key, salt); !bytes.Equal(b, want) || got != e {
		t.Errorf("Wrap(%q, %x, %08x) = %x, %d; want %x, %d", pass, key, salt, b, got, want, e)
	}
}

func wantUnwrap(t *testing.T, pass string, w, want []byte, e api.Errno) {
	t.Helper()
	if b, got := wrap.Unwrap(pass, w); !bytes.Equal(b, want) || got != e {
		t.Errorf("Unwrap(%q, %x) = %x, %d; want %x, %d", pass, w, b, got, want, e)
	}
}

// The stretched ones were reckoned apart from this program, with the salts 0, 01020304 and ffffffff. The lengths are those at which, behind a key and a byte or ahead of a salt, a piece of the sum is nearly full, and is full.
func TestP41Stretched(t *testing.T) {
	for _, c := range []struct {
		pass string
		want [3]string
	}{
		{"", [3]string{"6dbed390c954f5e6e4d35b00bd51d78b", "396a04f9dce7416d8466f3dee57cc212", "c327447790afd6e91c2aeb4c12ad9254"}},
		{"p", [3]string{"7df499b386492e6f8495095042e3184a", "0f0d9a18d89126c7e0e9e11a4f840c6e", "e27d6e58763010d6c8ea8aa652ccee61"}},
		{"ab", [3]string{"50284c7569add48ad29e75442313e403", "3d22b181d88dee4c274c93ee858d73c9", "a11bd46550fc69cc4b95045e85b39d7a"}},
		{"\x00", [3]string{"d70eec2e24b213caab077cafe25f411e", "c2d39c06c1a19915beb02e248fd9e983", "337dc2de485e9386920028b65954b3b6"}},
		{"abc\x00", [3]string{"f4db7bbbd7a0ceda0e81e945803309b0", "b2baffa79f1a0ccfa5c98b52bc60054e", "2a6f83f96806f6f409bf6559c83b5f95"}},
		{"\xff\xfe\x80", [3]string{"610c21bd84c611ab36732272f9b86464", "bb274ecf9d2326847db9cde1b6e19c79", "8e060bbf3ddcf0a77b05ea5ca57cba31"}},
		{string(rising(3)), [3]string{"2cb17a55455845a5ad708dad595f23bf", "11210f301a774f59b01691fcf2c391f5", "d0e6aded8c2407935078669cf0c76286"}},
		{string(rising(4)), [3]string{"f1de13133094f87ce15d0ede847eb019", "9338ca85d5a6acee4a5bf24b19508506", "21318978d1e8daed97af76b8fd78e5f6"}},
		{string(rising(12)), [3]string{"9e7b90d0398e050061e9e2fd448e81ec", "ce95dfd16b1043e589241a9bc42ae8b3", "23b7fc31b146769786f54637b125c0c2"}},
		{string(rising(20)), [3]string{"d18f3ecfb7acf979d08b1a78b1090b6e", "0eca99da50c712cee67788b363706ef1", "114ffe56f7cf1f9e9706c1b7cf3f2bca"}},
		{string(rising(63)), [3]string{"aa5bc701ec91252c1f7cebc4ff2e3987", "2212eaabcdf7ad4e7b69e2259577c33f", "b85be72a2e1f1f3e07926aefd4d075bb"}},
		{string(rising(64)), [3]string{"bb59c9848145a0c859dd130dc4969080", "7c47e3b07d81e126ec54821fb30747a4", "5315c0cc633ce53606352734126dc6c1"}},
	} {
		for i, salt := range []uint32{0, 0x01020304, most} {
			wantStretch(t, c.pass, salt, unhex(c.want[i]), api.OK)
		}
	}
}

func TestP41StretchSteps(t *testing.T) {
	for long := range 65 {
		for _, salt := range salts() {
			pass, blank := string(rising(long)), strings.Repeat("\x00", long)
			wantStretch(t, pass, salt, slowStretch(pass, salt), api.OK)
			wantStretch(t, blank, salt, slowStretch(blank, salt), api.OK)
		}
	}
	for _, pass := range passes() {
		for _, salt := range salts() {
			wantStretch(t, pass, salt, slowStretch(pass, salt), api.OK)
		}
	}
}

func TestP41TooLong(t *testing.T) {
	for _, pass := range tooLong() {
		for _, salt := range salts() {
			wantStretch(t, pass, salt, nil, api.ErrText)
		}
	}
}

// No bit is left out of what is stretched. That all of these are unlike holds for them, and is not promised of others.
func TestP41EachBitCounts(t *testing.T) {
	seen := map[string]bool{}
	tell := func(pass string, salt uint32) {
		b, e := wrap.Stretch(pass, salt)
		if len(b) != 16 || e != api.OK || seen[string(b)] {
			t.Errorf("Stretch(%q, %08x) = %x, %d: another one's", pass, salt, b, e)
		}
		seen[string(b)] = true
	}
	text := rising(64)
	for bit := range 32 {
		tell(string(text), 1<<bit)
	}
	for i := range text {
		for bit := range 8 {
			text[i] ^= 1 << bit
			tell(string(text), 0)
			text[i] ^= 1 << bit
		}
	}
	for _, pass := range passes()[:len(passes())-1] {
		tell(pass, 0)
	}
}

// The wrapped keys were reckoned apart from this program, with the salts 0, 01020304 and ffffffff.
func TestP42Wrapped(t *testing.T) {
	for _, c := range []struct {
		pass string
		key  int
		want [3]string
	}{
		{"", 0, [3]string{"0000000036736ce377bfa90a92210d2026b85ea98234a55b", "0403020127a985c9149a6224e30ab39911c72ec384dfaa48", "ffffffff14bae4834cfff52c6fa7e6e9a22918b23a01da61"}},
		{"", 1, [3]string{"00000000c98c931c884056f56ddef2dfd947a156b0a0581d", "04030201d8567a36eb659ddb1cf54c66ee38d13cd9ac5213", "ffffffffeb451b7cb3000ad3905819165dd6e74d853aa2d0"}},
		{"", 2, [3]string{"000000003d433999e87b4004a1797082e1544f9fe44f36a3", "040302012c99d0b38b5e8b2ad052ce3bd62b3ff573e7be0e", "ffffffff1f8ab1f9d33b1c225cff9b4b65c509849141684a"}},
		{"p", 0, [3]string{"00000000865d161d907183595a3fcb3015ec609c485f073d", "04030201fefde83533e1676055aa631dfe9346bf73e89254", "ffffffff90b500c6f8212c4660712c3e208906076263b624"}},
		{"p", 1, [3]string{"0000000079a2e9e26f8e7ca6a5c034cfea139f63e3390862", "04030201010217cacc1e989faa559ce2016cb9405139bad3", "ffffffff6f4aff3907ded3b99f8ed3c1df76f9f84b272a06"}},
		{"p", 2, [3]string{"000000008d6d43670fb56a576967b692d20071aa131de9cb", "04030201f5cdbd4fac258e6e66f21ebf397f57893cdf6caf", "ffffffff9b8555bc67e5c5485329519ce7651731b09ce9a7"}},
		{string(rising(64)), 0, [3]string{"00000000dc5ec4a9f3510ff8bda72e08f2e67e977d3d4e48", "040302015a168a5f5fc00e9a2ac86fe4b767bdc4d3294187", "ffffffff9628418f560e5f84b4067de596fa6a963e2f8049"}},
		{string(rising(64)), 1, [3]string{"0000000023a13b560caef0074258d1f70d1981688e4f7301", "04030201a5e975a0a03ff165d537901b4898423b254fa01c", "ffffffff69d7be70a9f1a07b4bf9821a6905956992c54c0e"}},
		{string(rising(64)), 2, [3]string{"00000000d76e91d36c95e6f68eff53aa350a6fa1a4c256ae", "040302015126df25c004e79419901246708bacf23d4a3db1", "ffffffff9d1814f5c9cab68a875e004751167ba0dd86679a"}},
	} {
		for i, salt := range []uint32{0, 0x01020304, most} {
			wantWrap(t, c.pass, keys()[c.key], salt, unhex(c.want[i]), api.OK)
			wantUnwrap(t, c.pass, unhex(c.want[i]), keys()[c.key], api.OK)
		}
	}
}

func TestP42WrapSteps(t *testing.T) {
	for _, pass := range passes() {
		for _, salt := range salts() {
			for _, key := range keys() {
				wantWrap(t, pass, key, salt, slowWrap(pass, key, salt), api.OK)
				wantUnwrap(t, pass, slowWrap(pass, key, salt), key, api.OK)
			}
		}
	}
}

func TestP42WrongLength(t *testing.T) {
	for _, long := range []int{0, 1, 4, 8, 15, 17, 20, 24, 31, 32, 33, 256, 1 << 16} {
		wantWrap(t, "p", rising(long), 7, nil, api.ErrArg)
		wantWrap(t, "", make([]byte, long), 0, nil, api.ErrArg)
	}
	wantWrap(t, "p", nil, 7, nil, api.ErrArg)
	for _, long := range []int{0, 1, 4, 16, 19, 20, 21, 23, 25, 28, 40, 48, 256, 1 << 16} {
		wantUnwrap(t, "p", rising(long), nil, api.ErrBad)
		wantUnwrap(t, "", make([]byte, long), nil, api.ErrBad)
	}
	wantUnwrap(t, "p", nil, nil, api.ErrBad)
}

// A wrapped key that lost bytes, or has others ahead or behind, is none.
func TestP42CutAndLengthened(t *testing.T) {
	w := slowWrap("p", rising(16), 7)
	for long := range 24 {
		wantUnwrap(t, "p", w[:long], nil, api.ErrBad)
		wantUnwrap(t, "p", w[24-long:], nil, api.ErrBad)
	}
	wantUnwrap(t, "p", join(w, []byte{0}), nil, api.ErrBad)
	wantUnwrap(t, "p", join([]byte{0}, w), nil, api.ErrBad)
	wantUnwrap(t, "p", join(w, w), nil, api.ErrBad)
}

// Bytes beyond a list's end are none of it, though there is room for them.
func TestP42SpareRoom(t *testing.T) {
	w := slowWrap("p", rising(16), 7)
	wantWrap(t, "p", rising(32)[:15], 7, nil, api.ErrArg)
	wantUnwrap(t, "p", bytes.Clone(w)[:23], nil, api.ErrBad)
	for _, fill := range []byte{0, 1, 255} {
		spare := bytes.Repeat([]byte{fill}, 40)
		wantWrap(t, "p", append(rising(16), spare...)[:16], 7, w, api.OK)
		wantUnwrap(t, "p", append(bytes.Clone(w), spare...)[:24], rising(16), api.OK)
	}
}

// A wrong passphrase is told ahead of whatever is wrong with the key or with what it was wrapped as.
func TestP42PassIsFirst(t *testing.T) {
	for _, pass := range tooLong() {
		for _, long := range []int{0, 15, 16, 17, 23, 24, 25} {
			wantWrap(t, pass, rising(long), 7, nil, api.ErrText)
			wantUnwrap(t, pass, rising(long), nil, api.ErrText)
		}
		wantWrap(t, pass, nil, 7, nil, api.ErrText)
		wantUnwrap(t, pass, nil, nil, api.ErrText)
		// Neither are its first 64 bytes taken for it.
		wantUnwrap(t, pass, slowWrap(pass[:64], rising(16), 7), nil, api.ErrText)
	}
}

// Each bit of a wrapped key counts. (That none of these has a rightful tag holds for them, and is not promised of others.)
func TestP42Turned(t *testing.T) {
	for _, pass := range []string{"", "p", string(rising(64))} {
		w := slowWrap(pass, rising(16), 0x01020304)
		for i := range w {
			for bit := range 8 {
				w[i] ^= 1 << bit
				wantUnwrap(t, pass, w, nil, api.ErrPass)
				w[i] ^= 1 << bit
			}
		}
		for i := 1; i < len(w); i++ {
			w[i], w[i-1] = w[i-1], w[i]
			wantUnwrap(t, pass, w, nil, api.ErrPass)
			w[i], w[i-1] = w[i-1], w[i]
		}
		wantUnwrap(t, pass, w, rising(16), api.OK)
	}
}

// All of a tag's bits are turned in what is nothing's tag.
func TestP42NoTag(t *testing.T) {
	for _, pass := range passes() {
		w := slowWrap(pass, rising(16), 7)
		for i := 20; i < 24; i++ {
			w[i] ^= 255
		}
		wantUnwrap(t, pass, w, nil, api.ErrPass)
		wantUnwrap(t, pass, make([]byte, 24), nil, api.ErrPass)
		wantUnwrap(t, pass, bytes.Repeat([]byte{255}, 24), nil, api.ErrPass)
	}
}

// What one of these passphrases wraps no other one unwraps. (That holds for these, and is not promised of others.)
func TestP42OtherPass(t *testing.T) {
	for i, pass := range passes() {
		w := slowWrap(pass, rising(16), 7)
		for j, other := range passes() {
			if i == j {
				wantUnwrap(t, other, w, rising(16), api.OK)
			} else {
				wantUnwrap(t, other, w, nil, api.ErrPass)
			}
		}
	}
}

// Whatever bytes have their tag by a passphrase are a key that it wrapped: the tag alone tells.
func TestP42WhateverHasItsTag(t *testing.T) {
	for _, pass := range passes() {
		for _, salt := range salts() {
			for _, middle := range keys() {
				wantUnwrap(t, pass, slowSign(pass, salt, middle), slowMask(pass, middle, salt), api.OK)
			}
		}
	}
}

// A tag by another salt's stretched one, of other bytes, or by the key itself, is another tag.
func TestP42RightTagOfOtherThings(t *testing.T) {
	key, middle := rising(16), slowMask("p", rising(16), 7)
	ahead := join(fourBytes(7), middle)
	sign := func(by, of []byte) []byte {
		tag, _ := mac.Tag(by, of)
		return join(ahead, fourBytes(tag))
	}
	by := slowStretch("p", 7)
	wantUnwrap(t, "p", sign(by, ahead), key, api.OK)
	for i, w := range [][]byte{
		sign(slowStretch("p", 8), ahead), sign(slowStretch("p", 0), ahead), sign(key, ahead), sign(middle, ahead),
		sign(by, middle), sign(by, join(ahead, make([]byte, 4))), sign(by, join(fourBytes(7), key)), sign(by, join(middle, fourBytes(7))),
	} {
		if k, e := wrap.Unwrap("p", w); len(k) != 0 || e != api.ErrPass {
			t.Errorf("%d: Unwrap(p, %x) = %x, %d", i, w, k, e)
		}
	}
}

// wantSame asks that a list is still what it was.
func wantSame(t *testing.T, what string, list, want []byte) {
	t.Helper()
	if !bytes.Equal(list, want) {
		t.Errorf("%q: became %x; want %x", what, list, want)
	}
}

func TestP43OnlyReads(t *testing.T) {
	for _, pass := range append(passes(), tooLong()...) {
		for _, long := range []int{0, 15, 16, 17, 23, 24, 25} {
			room := rising(60)
			wrap.Wrap(pass, room[:long], 7)
			wrap.Unwrap(pass, room[:long])
			wantSame(t, "Wrap and Unwrap by "+pass, room, rising(60))
		}
		room := append(slowWrap(pass, rising(16), 7), rising(40)...)
		was := bytes.Clone(room)
		wrap.Unwrap(pass, room[:24])
		wantSame(t, "Unwrap by "+pass, room, was)
	}
}

// spoil turns all bytes of a list, those of its spare room too.
func spoil(list []byte) {
	wide := list[:cap(list)]
	for i := range wide {
		wide[i] ^= 255
	}
}

func TestP43StretchIsNewMemory(t *testing.T) {
	for _, pass := range passes() {
		a, _ := wrap.Stretch(pass, 7)
		b, _ := wrap.Stretch(pass, 7)
		spoil(a)
		wantSame(t, "another answer of Stretch", b, slowStretch(pass, 7))
		wantStretch(t, pass, 7, slowStretch(pass, 7), api.OK)
	}
}

func TestP43WrapIsNewMemory(t *testing.T) {
	for _, pass := range passes() {
		room := rising(80)
		want := slowWrap(pass, rising(16), 7)
		a, _ := wrap.Wrap(pass, room[:16], 7)
		b, _ := wrap.Wrap(pass, room[:16], 7)
		spoil(a)
		wantSame(t, "a key that is wrapped", room, rising(80))
		wantSame(t, "another answer of Wrap", b, want)
		spoil(room)
		wantSame(t, "an answer whose key is turned", b, want)
		wantWrap(t, pass, rising(16), 7, want, api.OK)
	}
}

func TestP43UnwrapIsNewMemory(t *testing.T) {
	for _, pass := range passes() {
		room := append(slowWrap(pass, rising(16), 7), rising(80)...)
		was := bytes.Clone(room)
		a, _ := wrap.Unwrap(pass, room[:24])
		b, _ := wrap.Unwrap(pass, room[:24])
		spoil(a)
		wantSame(t, "a wrapped key", room, was)
		wantSame(t, "another answer of Unwrap", b, rising(16))
		spoil(room)
		wantSame(t, "an answer whose wrapped key is turned", b, rising(16))
		wantUnwrap(t, pass, was[:24], rising(16), api.OK)
	}
}

func TestP44WrappedIsUnwrapped(t *testing.T) {
	for _, pass := range passes() {
		for _, salt := range salts() {
			for _, key := range keys() {
				w, e := wrap.Wrap(pass, key, salt)
				if len(w) != 24 || e != api.OK {
					t.Fatalf("Wrap(%q, %x, %08x) = %x, %d", pass, key, salt, w, e)
				}
				wantUnwrap(t, pass, w, key, api.OK)
			}
		}
	}
}

func TestP44EachByteOfAKey(t *testing.T) {
	for place := range 16 {
		for n := range 256 {
			key := make([]byte, 16)
			key[place] = byte(n)
			w, e := wrap.Wrap("p", key, uint32(n)<<16)
			if e != api.OK {
				t.Fatalf("Wrap of %x: %d", key, e)
			}
			wantUnwrap(t, "p", w, key, api.OK)
		}
	}
}

// Also bytes that no call of Wrap made, but that have their tag, are what their key is wrapped as.
func TestP44UnwrappedIsWrapped(t *testing.T) {
	for _, pass := range passes() {
		for _, salt := range salts() {
			for _, middle := range keys() {
				w := slowSign(pass, salt, middle)
				key, e := wrap.Unwrap(pass, w)
				if len(key) != 16 || e != api.OK {
					t.Fatalf("Unwrap(%q, %x) = %x, %d", pass, w, key, e)
				}
				wantWrap(t, pass, key, salt, w, api.OK)
			}
		}
	}
}

// Two passphrases whose stretched ones give one tag to the same bytes, found by a search: both unwrap them, each as a key of its own.
func TestP44TwoPasses(t *testing.T) {
	w := unhex("070000000b30557a9fc4e90e33587da2c7ec1136873d6174")
	for _, c := range []struct{ pass, key string }{
		{"p61316", "22667a27fcd6749d69902a44f2169c5f"},
		{"p76848", "d82010904fce717dbc5c1f10aedc3b7e"},
	} {
		wantUnwrap(t, c.pass, w, unhex(c.key), api.OK)
		wantWrap(t, c.pass, unhex(c.key), 7, w, api.OK)
	}
	wantUnwrap(t, "p61317", w, nil, api.ErrPass)
}

func TestExamples(t *testing.T) {
	w, _ := wrap.Wrap("p", rising(16), 7)
	wantUnwrap(t, "p", w, rising(16), api.OK)
	wantUnwrap(t, "p", w[:23], nil, api.ErrBad)
	wantUnwrap(t, strings.Repeat("p", 65), w, nil, api.ErrText)
}

// Calls with everything that may be wrong, in all pairs, end, and tell nothing beside an error.
func TestR1AllEnd(t *testing.T) {
	lists := [][]byte{nil, {}}
	for long := range 50 {
		lists = append(lists, rising(long), make([]byte, long))
	}
	for _, pass := range append(passes(), tooLong()...) {
		for _, list := range lists {
			if w, e := wrap.Wrap(pass, list, most); e != api.OK && len(w) != 0 {
				t.Errorf("Wrap(%q, %x) = %x, %d", pass, list, w, e)
			}
			if key, e := wrap.Unwrap(pass, list); e != api.OK && len(key) != 0 {
				t.Errorf("Unwrap(%q, %x) = %x, %d", pass, list, key, e)
			}
		}
	}
}

// What was asked before, or is asked at the same time, counts for nothing.
func TestR2ArgumentsAlone(t *testing.T) {
	ask := func() {
		for _, pass := range passes() {
			for _, salt := range salts() {
				w := slowWrap(pass, rising(16), salt)
				wantStretch(t, pass, salt, slowStretch(pass, salt), api.OK)
				wantWrap(t, pass, rising(16), salt, w, api.OK)
				wantUnwrap(t, pass+"?", w, nil, wrongPass(pass+"?"))
				wantUnwrap(t, pass, w, rising(16), api.OK)
			}
		}
	}
	var all sync.WaitGroup
	for range 8 {
		all.Add(1)
		go func() {
			defer all.Done()
			ask()
		}()
	}
	all.Wait()
	ask()
}

// wrongPass tells how a passphrase that did not wrap is refused.
func wrongPass(pass string) api.Errno {
	if len(pass) > 64 {
		return api.ErrText
	}
	return api.ErrPass
}
