package mix_test

import (
	"bytes"
	"math/bits"
	"testing"

	"charterhouse/mix"
)

const most = 1<<32 - 1

type words = [4]uint32

// The tests' own turn goes step by step, in 64 bits, so that they do not lean on what they try.
func slowTurn(x words) words {
	a, b, c, d := uint64(x[0]), uint64(x[1]), uint64(x[2]), uint64(x[3])
	a = (a + b) % (most + 1)
	d = slowLeft(d^a, 15)
	c = (c + d) % (most + 1)
	b = slowLeft(b^c, 11)
	a = (a + b) % (most + 1)
	d = slowLeft(d^a, 9)
	c = (c + d) % (most + 1)
	b = slowLeft(b^c, 6)
	return words{uint32(a), uint32(b), uint32(c), uint32(d)}
}

// slowLeft turns 32 bits: what leaves above comes in below.
func slowLeft(n uint64, by int) uint64 {
	for range by {
		n *= 2
		n = n%(most+1) + n/(most+1)
	}
	return n
}

// slowFour lays all of the text anew, ahead of the first turn.
func slowFour(text []byte) words {
	laid := append(append([]byte{}, text...), 1)
	for len(laid)%8 != 0 {
		laid = append(laid, 0)
	}
	x := words{1, 2, 3, 4}
	for ; len(laid) > 0; laid = laid[8:] {
		x[0] ^= slowNumber(laid[:4])
		x[2] ^= slowNumber(laid[4:8])
		for range 4 {
			x = slowTurn(x)
		}
	}
	x[1] ^= uint32(len(text))
	for range 8 {
		x = slowTurn(x)
	}
	return x
}

func slowNumber(b []byte) uint32 {
	n := uint32(0)
	for i := 3; i >= 0; i-- {
		n = n*256 + uint32(b[i])
	}
	return n
}

// rising is a text of n bytes, no two beside each other alike.
func rising(n int) []byte {
	text := make([]byte, n)
	for i := range text {
		text[i] = byte(i*37 + 11)
	}
	return text
}

// samples are words that are 0 or the greatest, of one bit, and of many.
func samples() []words {
	var out []words
	edges := []uint32{0, 1, 0x7fffffff, 0x80000000, most - 1, most}
	for _, a := range edges {
		for _, b := range edges {
			for _, c := range edges {
				for _, d := range edges {
					out = append(out, words{a, b, c, d})
				}
			}
		}
	}
	for place := range 4 {
		for bit := range 32 {
			one, but := words{}, words{most, most, most, most}
			one[place] ^= 1 << bit
			but[place] ^= 1 << bit
			out = append(out, one, but)
		}
	}
	x := words{1, 2, 3, 4}
	for range 2000 {
		x = slowTurn(x)
		out = append(out, x)
	}
	return out
}

var turned = []struct{ from, to words }{
	{words{}, words{}},
	{words{0, 0, 0, 1}, words{67108864, 1075839489, 16809992, 16777224}},
	{words{1, 0, 0, 0}, words{0x04000001, 0x40208201, 0x01008208, 0x01000208}},
	{words{0, 1, 0, 0}, words{0x04000801, 0x44228201, 0x01108208, 0x01100208}},
	{words{0, 0, 1, 0}, words{0x00000800, 0x04020040, 0x00100001, 0x00100000}},
	{words{1, 2, 3, 4}, words{0x1c000803, 0xc4e38ec6, 0x0713863b, 0x07100638}},
	{words{most, most, most, most}, words{0xfc0007fd, 0x441f023f, 0x01107bf7, 0x010ffbf8}},
	{words{most, 0, 0, 0}, words{0xfffffffe, 0xffff803f, 0x000001ff, 0x00000200}},
	{words{0, most, 0, 0}, words{most, most, most, 0}},
	{words{0, 0, most, 0}, words{most, 0x00000040, 0xfffffffe, most}},
	{words{0, 0, 0, most}, words{most, 0, most, 0}},
	{words{1 << 31, 1 << 31, 1 << 31, 1 << 31}, words{0x02000000, 0xa0100120, 0x80804004, 0x00800004}},
	{words{0x01234567, 0x89abcdef, 0xfedcba98, 0x76543210}, words{0xea776387, 0x04e77ada, 0x37bbcdda, 0xa83b94f5}},
}

func TestP21TurnAndBack(t *testing.T) {
	for _, c := range turned {
		if x := mix.Turn(c.from); x != c.to {
			t.Errorf("Turn(%x) = %x; want %x", c.from, x, c.to)
		}
		if x := mix.Back(c.to); x != c.from {
			t.Errorf("Back(%x) = %x; want %x", c.to, x, c.from)
		}
	}
}

func TestP21TurnSteps(t *testing.T) {
	for _, x := range samples() {
		if got, want := mix.Turn(x), slowTurn(x); got != want {
			t.Fatalf("Turn(%x) = %x; want %x", x, got, want)
		}
		if got := mix.Back(slowTurn(x)); got != x {
			t.Fatalf("Back(%x) = %x; want %x", slowTurn(x), got, x)
		}
	}
}

func wantFour(t *testing.T, text []byte, want words) {
	t.Helper()
	if x := mix.Four(text); x != want {
		t.Errorf("Four of %d bytes, %v = %x; want %x", len(text), text, x, want)
	}
	if sum := mix.Sum(text); sum != want[0] {
		t.Errorf("Sum of %d bytes, %v = %x; want %x", len(text), text, sum, want[0])
	}
	var key []byte
	for _, word := range want {
		for range 4 {
			key = append(key, byte(word%256))
			word /= 256
		}
	}
	if got := mix.Key(text); !bytes.Equal(got, key) {
		t.Errorf("Key of %d bytes, %v = %x; want %x", len(text), text, got, key)
	}
}

// The lengths are those at which a piece begins, is nearly full, and is full.
func TestP21FourOfLengths(t *testing.T) {
	for _, c := range []struct {
		long int
		want words
	}{
		{0, words{0xc6afd428, 0x043ed688, 0xd5b64605, 0xb402d4fb}},
		{1, words{0x1344c6bd, 0x56559a6c, 0xdc6f801f, 0xa48fedec}},
		{3, words{0x96ff5b1e, 0x7e84cdda, 0x08dcfe0f, 0x2cd385fd}},
		{4, words{0x79f7c285, 0xe4a30aba, 0x34e38ae0, 0xf835042d}},
		{5, words{0x88172eb7, 0x32247515, 0x574122b9, 0x7a4395cc}},
		{7, words{0x1fc25fd9, 0xf916a3fd, 0xf708e42e, 0xa27c56d0}},
		{8, words{0xb81f80b2, 0xb6b4585d, 0x36c60516, 0xa6bf6092}},
		{9, words{0x0a0043a1, 0xfd2fc521, 0xd33264e7, 0xcb843528}},
		{15, words{0x3eb5a33f, 0xf991df4e, 0xc22e9cc8, 0xb6214043}},
		{16, words{0x69947ee7, 0xec00dd9e, 0xe9011b25, 0x7f16e681}},
		{17, words{0x951665fa, 0x9196ec49, 0xb7959e6a, 0x047e80b3}},
		{24, words{0x9f129d9b, 0x524659f2, 0x93fc1c6c, 0xbcd82b78}},
		{255, words{0x848f3aa6, 0xd1a3479f, 0x8e1f7f15, 0xecfca0a6}},
		{256, words{0x02b6be16, 0x86097a95, 0xad8d6809, 0xf7d261d2}},
		{257, words{0xbf25cfbd, 0xceff6f98, 0x633017d9, 0x1fd1a476}},
	} {
		wantFour(t, rising(c.long), c.want)
	}
}

func TestP21FourOfNoughtsAndGreatest(t *testing.T) {
	for _, c := range []struct {
		long             int
		noughts, highest words
	}{
		{7, words{0x9d2bfada, 0x07978412, 0xd3f28491, 0xb6b1aada}, words{0x023e1a55, 0x08d90507, 0xdfb177f6, 0xd1b1fa9f}},
		{8, words{0x5664bbfa, 0xde6452fa, 0x7bc6b3bd, 0x04001bc1}, words{0x849a8f38, 0xa9c5afac, 0x57fa3070, 0x9fee1b7b}},
		{9, words{0x39aab07d, 0xc463f390, 0x888f3b21, 0x7e0a755c}, words{0xe5f2e646, 0x9fca7a73, 0x07810acb, 0xf673eb30}},
		{15, words{0x8a269c9b, 0xaec44507, 0x9c6180fb, 0x298c66e5}, words{0xada6139f, 0x2d3498e3, 0x1c223a7c, 0xd30abe3c}},
		{16, words{0x31286a34, 0x9c095238, 0x9d258044, 0xc4c710df}, words{0x32bbe541, 0xedd443ab, 0xb094f5c9, 0xb9887c9a}},
		{17, words{0xde586d8e, 0xccb53afc, 0xaafe9222, 0x667ef9ca}, words{0x553b5b46, 0x5a459382, 0x7cd6368f, 0xf17df156}},
	} {
		wantFour(t, make([]byte, c.long), c.noughts)
		wantFour(t, bytes.Repeat([]byte{255}, c.long), c.highest)
	}
}

func TestP21NoBytes(t *testing.T) {
	wantFour(t, nil, mix.Four([]byte{}))
	wantFour(t, []byte{}, slowFour(nil))
}

func TestP21FourSteps(t *testing.T) {
	for long := range 300 {
		wantFour(t, rising(long), slowFour(rising(long)))
	}
	// The count has more than one and more than two bytes.
	for _, long := range []int{65535, 65536, 65537, 1 << 17} {
		if got, want := mix.Four(rising(long)), slowFour(rising(long)); got != want {
			t.Errorf("Four of %d bytes = %x; want %x", long, got, want)
		}
	}
}

func TestP21KeyOfText(t *testing.T) {
	want := []byte{0xf4, 0x7b, 0xdd, 0xb1, 0x33, 0xc3, 0x76, 0xec, 0x96, 0xfd, 0xd5, 0xdd, 0x6c, 0xbc, 0xf8, 0x5b}
	if key := mix.Key([]byte("abc")); !bytes.Equal(key, want) {
		t.Errorf("Key of abc = %x; want %x", key, want)
	}
	if sum := mix.Sum([]byte("abc")); sum != 0xb1dd7bf4 {
		t.Errorf("Sum of abc = %x", sum)
	}
}

// A text's end may look like what is laid behind another one: its length tells them apart.
func TestP21LengthCounts(t *testing.T) {
	seen := map[words][]byte{}
	for _, start := range [][]byte{nil, []byte("abc"), rising(7), rising(8), rising(15), rising(16)} {
		for noughts := range 20 {
			for _, one := range []byte{0, 1} {
				text := append(append(bytes.Clone(start), one), make([]byte, noughts)...)
				if other, is := seen[mix.Four(text)]; is && !bytes.Equal(other, text) {
					t.Errorf("%v and %v have the same four words", other, text)
				}
				seen[mix.Four(text)] = text
			}
		}
	}
}

// Bytes beyond a text's end are none of it, though there is room for them.
func TestP21SpareRoom(t *testing.T) {
	for long := range 20 {
		for _, fill := range []byte{0, 1, 255} {
			room := append(rising(long), bytes.Repeat([]byte{fill}, 20)...)
			wantFour(t, room[:long], slowFour(rising(long)))
		}
	}
}

func TestP22OnlyReads(t *testing.T) {
	calls := map[string]func([]byte){
		"Four": func(b []byte) { mix.Four(b) },
		"Sum":  func(b []byte) { mix.Sum(b) },
		"Key":  func(b []byte) { mix.Key(b) },
	}
	for name, call := range calls {
		for long := range 34 {
			room := rising(50)
			call(room[:long])
			if !bytes.Equal(room, rising(50)) {
				t.Errorf("%s of %d bytes turned what it was handed into %v", name, long, room)
			}
		}
	}
}

func TestP22WordsStay(t *testing.T) {
	for _, was := range samples() {
		x := was
		mix.Turn(x)
		mix.Back(x)
		if x != was {
			t.Fatalf("%x became %x", was, x)
		}
	}
}

func TestP22KeyIsNewMemory(t *testing.T) {
	for _, long := range []int{0, 7, 8, 9, 15, 16, 17} {
		text := rising(long)
		a, b := mix.Key(text), mix.Key(text)
		want := bytes.Clone(b)
		wide := a[:cap(a)]
		for i := range wide {
			wide[i] ^= 255
		}
		if !bytes.Equal(b, want) || !bytes.Equal(mix.Key(text), want) {
			t.Errorf("Key of %d bytes: another answer was turned", long)
		}
		if !bytes.Equal(text, rising(long)) {
			t.Errorf("Key of %d bytes shares with the text", long)
		}
		for i := range text {
			text[i] ^= 255
		}
		if !bytes.Equal(b, want) {
			t.Errorf("Key of %d bytes hangs on the text later", long)
		}
	}
}

func TestP23BackUndoesTurn(t *testing.T) {
	for _, x := range samples() {
		if got := mix.Back(mix.Turn(x)); got != x {
			t.Fatalf("Back of Turn of %x = %x", x, got)
		}
		if got := mix.Turn(mix.Back(x)); got != x {
			t.Fatalf("Turn of Back of %x = %x", x, got)
		}
	}
}

func TestP23BackManyTimes(t *testing.T) {
	const many = 1000
	first := words{1, 2, 3, 4}
	x := first
	for range many {
		x = mix.Turn(x)
	}
	for range many {
		x = mix.Back(x)
	}
	if x != first {
		t.Errorf("%d turns, undone, make %x of %x", many, x, first)
	}
}

// others are what may stand where a piece stands: one byte or bit is another one, or all are.
func others(piece []byte) [][]byte {
	var out [][]byte
	for i := range piece {
		for _, flip := range []byte{1, 2, 4, 8, 16, 32, 64, 128, 255} {
			one := bytes.Clone(piece)
			one[i] ^= flip
			out = append(out, one)
		}
	}
	all, turned := bytes.Clone(piece), bytes.Clone(piece)
	for i := range piece {
		all[i] ^= 255
		turned[i] = bits.Reverse8(piece[i]) ^ byte(i+1)
	}
	return append(out, all, turned)
}

// Of one length, each with one piece that is another one: whichever it is, also the last one, which is not full.
func TestP23UnlikePiece(t *testing.T) {
	for _, long := range []int{1, 7, 8, 9, 15, 16, 17, 24, 31, 32, 33, 256} {
		for from := 0; from < long; from += 8 {
			text := rising(long)
			seen := map[words][]byte{mix.Four(text): bytes.Clone(text)}
			piece := text[from:min(from+8, long)]
			for _, other := range others(bytes.Clone(piece)) {
				copy(piece, other)
				x := mix.Four(text)
				if same, is := seen[x]; is && !bytes.Equal(same, text) {
					t.Errorf("%v and %v have the same four words", same, text)
				}
				seen[x] = bytes.Clone(text)
			}
		}
	}
}

// All texts of two bytes, and all pieces with two unlike bytes far from each other, have four words of their own.
func TestP23UnlikePairs(t *testing.T) {
	short, wide := map[words]int{}, map[words]int{}
	text := rising(20)
	for n := range 1 << 16 {
		x := mix.Four([]byte{byte(n), byte(n >> 8)})
		text[8], text[15] = byte(n), byte(n>>8)
		y := mix.Four(text)
		if other, is := short[x]; is {
			t.Fatalf("the texts %x and %x have the same four words", other, n)
		}
		if other, is := wide[y]; is {
			t.Fatalf("the pieces %x and %x have the same four words", other, n)
		}
		short[x], wide[y] = n, n
	}
}
