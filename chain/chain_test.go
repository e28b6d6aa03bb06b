package chain_test

import (
	"bytes"
	"encoding/hex"
	"math"
	"slices"
	"sync"
	"testing"

	"charterhouse/api"
	"charterhouse/chain"
	"charterhouse/mix"
)

// rising is a text of n bytes, no two beside each other alike.
func rising(n int) []byte {
	text := make([]byte, n)
	for i := range text {
		text[i] = byte(i*37 + 11)
	}
	return text
}

// seeds are those whose bytes are all 0, all the greatest, and all unlike.
func seeds() [][]byte {
	return [][]byte{make([]byte, 16), bytes.Repeat([]byte{255}, 16), rising(16), []byte("0123456789abcdef")}
}

// wrongSeeds are none, by their lengths.
func wrongSeeds() [][]byte {
	wrong := [][]byte{nil, rising(160), rising(255), rising(256), rising(1<<16 + 16)}
	for long := range 50 {
		if long != 16 {
			wrong = append(wrong, rising(long), make([]byte, long))
		}
	}
	return wrong
}

// wrongLeaves are none: those beside the least and the greatest one, and such as have a leaf in their lowest bits.
func wrongLeaves() []int {
	return []int{-1, 8, 9, 10, 15, 16, 255, 256, 257, 263, -2, -7, -8, -248, -249, -255, -256, 1 << 16, 1<<31 - 1, -1 << 31, math.MaxInt, math.MinInt, math.MinInt + 3}
}

// texts are ordinary ones, and such as end where a piece of their sum does.
func texts() [][]byte {
	list := [][]byte{nil, []byte("abc"), []byte("abd"), []byte("a text that is longer than two pieces are, by far"), make([]byte, 8), bytes.Repeat([]byte{255}, 300)}
	for _, long := range []int{0, 1, 7, 8, 9, 15, 16, 17, 160, 256, 4096} {
		list = append(list, rising(long))
	}
	return list
}

// unhex panics where a test's own text is wrong.
func unhex(text string) []byte {
	b, err := hex.DecodeString(text)
	if err != nil {
		panic(err)
	}
	return b
}

// join lays texts into memory that has no room to spare, so that the tests do not lean on what they try.
func join(parts ...[]byte) []byte {
	return []byte(string(bytes.Join(parts, nil)))
}

// slowDigits are told by hexadecimal writing, whose highest digit comes first.
func slowDigits(text []byte) []int {
	sum := mix.Sum(join(text))
	written := hex.EncodeToString([]byte{byte(sum >> 24), byte(sum >> 16), byte(sum >> 8), byte(sum)})
	var digits []int
	left := 8 * 15
	for i := 7; i >= 0; i-- {
		digit := bytes.IndexByte([]byte("0123456789abcdef"), written[i])
		digits = append(digits, digit)
		left -= digit
	}
	return append(digits, left%16, left/16)
}

// slowValues are all sixteen values of a leaf's place.
func slowValues(seed []byte, leaf, place int) [][]byte {
	all := [][]byte{mix.Key(join(seed, []byte{byte(leaf), byte(place)}))}
	for n := range 15 {
		all = append(all, mix.Key(join(all[n], []byte{byte(leaf), byte(place), byte(n)})))
	}
	return all
}

func slowPublic(seed []byte, leaf int) []byte {
	var lasts []byte
	for place := range 10 {
		lasts = append(lasts, slowValues(seed, leaf, place)[15]...)
	}
	return mix.Key(join(lasts, []byte{byte(leaf)}))
}

func slowSign(seed []byte, leaf int, text []byte) []byte {
	var sig []byte
	for place, digit := range slowDigits(text) {
		sig = append(sig, slowValues(seed, leaf, place)[digit]...)
	}
	return join(sig)
}

// slowRecover takes each value on from the digit of its place.
func slowRecover(leaf int, text, sig []byte) []byte {
	var lasts []byte
	for place, digit := range slowDigits(text) {
		one := join(sig[16*place : 16*place+16])
		for n := digit; n < 15; n++ {
			one = mix.Key(join(one, []byte{byte(leaf), byte(place), byte(n)}))
		}
		lasts = append(lasts, one...)
	}
	return mix.Key(join(lasts, []byte{byte(leaf)}))
}

func wantDigits(t *testing.T, text []byte, want ...int) {
	t.Helper()
	if got := chain.Digits(text); !slices.Equal(got, want) {
		t.Errorf("Digits(%x) = %v; want %v", text, got, want)
	}
}

func wantPublic(t *testing.T, seed []byte, leaf int, want []byte, e api.Errno) {
	t.Helper()
	if public, got := chain.Public(seed, leaf); !bytes.Equal(public, want) || got != e {
		t.Errorf("Public(%x, %d) = %x, %d; want %x, %d", seed, leaf, public, got, want, e)
	}
}

func wantSign(t *testing.T, seed []byte, leaf int, text, want []byte, e api.Errno) {
	t.Helper()
	if sig, got := chain.Sign(seed, leaf, text); !bytes.Equal(sig, want) || got != e {
		t.Errorf("Sign(%x, %d, %x) = %x, %d; want %x, %d", seed, leaf, text, sig, got, want, e)
	}
}

func wantRecover(t *testing.T, leaf int, text, sig, want []byte, e api.Errno) {
	t.Helper()
	if public, got := chain.Recover(leaf, text, sig); !bytes.Equal(public, want) || got != e {
		t.Errorf("Recover(%d, %x, %x) = %x, %d; want %x, %d", leaf, text, sig, public, got, want, e)
	}
}

// wantSame asks that a list is still what it was.
func wantSame(t *testing.T, what string, list, want []byte) {
	t.Helper()
	if !bytes.Equal(list, want) {
		t.Errorf("%q: is %x; want %x", what, list, want)
	}
}

// These and all values below that are written out were reckoned apart from this program.
func TestP71Digits(t *testing.T) {
	wantDigits(t, nil, 8, 2, 4, 13, 15, 10, 6, 12, 2, 3)
	wantDigits(t, []byte{}, 8, 2, 4, 13, 15, 10, 6, 12, 2, 3)
	wantDigits(t, []byte("abc"), 4, 15, 11, 7, 13, 13, 1, 11, 13, 2)
	wantDigits(t, []byte("abd"), 7, 14, 0, 1, 8, 12, 4, 14, 12, 3)
	wantDigits(t, []byte("a text that is longer than two pieces are, by far"), 13, 8, 12, 13, 2, 1, 12, 0, 11, 3)
}

func TestP71DigitsOfEachLength(t *testing.T) {
	for long := range 520 {
		for _, text := range [][]byte{rising(long), make([]byte, long), bytes.Repeat([]byte{255}, long)} {
			wantDigits(t, text, slowDigits(text)...)
		}
	}
	for _, long := range []int{4096, 65535, 65536, 1 << 20} {
		wantDigits(t, rising(long), slowDigits(rising(long))...)
	}
}

// little is a number's five lowest bytes, the lowest one first.
func little(n uint64) []byte {
	return []byte{byte(n), byte(n >> 8), byte(n >> 16), byte(n >> 24), byte(n >> 32)}
}

// special is a text whose sum is one of those at the edges, and its digits.
type special struct {
	text   uint64
	digits [10]int
}

// edges are texts whose sums have the least and the greatest digit, alone or beside others, and then digits that fall and rise.
func edges() []special {
	return []special{
		{0x061c6c091d, [10]int{0, 0, 0, 0, 0, 0, 0, 0, 8, 7}},
		{0x101ff5fae6, [10]int{15, 15, 15, 15, 15, 15, 15, 15, 0, 0}},
		{0x151431ceaf, [10]int{1, 0, 0, 0, 0, 0, 0, 0, 7, 7}},
		{0x0b09d1ad52, [10]int{0, 0, 0, 0, 0, 0, 0, 1, 7, 7}},
		{0x101109bdbe, [10]int{0, 0, 0, 0, 0, 0, 0, 8, 0, 7}},
		{0x1f0c16defd, [10]int{14, 15, 15, 15, 15, 15, 15, 15, 1, 0}},
		{0x010318cdd1, [10]int{15, 15, 15, 15, 15, 15, 15, 14, 1, 0}},
		{0x1f783470a3, [10]int{15, 15, 15, 15, 15, 15, 15, 7, 8, 0}},
		{0x1000c8ea82, [10]int{15, 15, 15, 15, 0, 0, 0, 0, 12, 3}},
		{0x1007983ec2, [10]int{0, 0, 0, 0, 15, 15, 15, 15, 12, 3}},
		{0x0b151419d0, [10]int{15, 0, 15, 0, 15, 0, 15, 0, 12, 3}},
		{0x1a042f60bc, [10]int{0, 15, 0, 15, 0, 15, 0, 15, 12, 3}},
		{0x0107526555, [10]int{7, 6, 5, 4, 3, 2, 1, 0, 12, 5}},
		{0x1f0e30b08f, [10]int{0, 1, 2, 3, 4, 5, 6, 7, 12, 5}},
		{0x060b9eca77, [10]int{8, 7, 6, 5, 4, 3, 2, 1, 4, 5}},
	}
}

// lacking has, for each number that the eight digits may lack, a text of which they do.
func lacking() [121]uint64 {
	return [121]uint64{
		0x101ff5fae6, 0x1a00fb5e65, 0x06008791e2, 0x0100061efc, 0x15000f39f1, 0x01001415c0, 0x1f0003dbc1, 0x1000055d70, 0x150000154b, 0x1500001bd0, 0x0600003d5a,
		0x150000386e, 0x1500014f2e, 0x06000004e2, 0x10000028b3, 0x1000005806, 0x1500001d11, 0x1500000250, 0x0600000ef2, 0x15000000bd, 0x1000000004, 0x06000003d3,
		0x06000001a9, 0x150000072b, 0x10000000ce, 0x10000000e2, 0x1500000240, 0x060000003c, 0x0600000123, 0x0600000087, 0x0600000018, 0x0600000084, 0x06000000d6,
		0x060000009d, 0x06000000e5, 0x06000000ee, 0x060000000e, 0x0600000007, 0x0600000103, 0x0600000001, 0x2400000010, 0x0600000076, 0x0600000020, 0x060000001f,
		0x0600000019, 0x06000000ba, 0x0600000026, 0x0600000008, 0x060000004b, 0x240000001d, 0x0600000036, 0x0600000006, 0x2400000015, 0x2400000001, 0x0600000057,
		0x0600000017, 0x0600000012, 0x0600000005, 0x060000001a, 0x0600000003, 0x060000002e, 0x0600000031, 0x240000001e, 0x060000000c, 0x0600000002, 0x2400000009,
		0x060000003e, 0x0600000000, 0x0600000014, 0x0600000011, 0x0600000004, 0x060000001e, 0x0600000034, 0x2400000000, 0x0600000009, 0x060000000f, 0x0600000094,
		0x240000000f, 0x0600000023, 0x06000000c5, 0x060000000d, 0x2400000022, 0x060000017d, 0x0600000098, 0x06000000a2, 0x0600000027, 0x1000000041, 0x0600000022,
		0x0600000015, 0x0600000259, 0x240000001a, 0x1000000179, 0x10000000b1, 0x060000011b, 0x06000001b4, 0x060000028e, 0x1000000024, 0x10000002c3, 0x24000000a5,
		0x100000037a, 0x0600000f1e, 0x060000022f, 0x15000005f9, 0x15000004c5, 0x0600001c38, 0x06000012be, 0x0600002aa7, 0x10000027d1, 0x1500006bdc, 0x0b00004b49,
		0x1000003281, 0x1000005e8b, 0x150001b6c2, 0x100000b0ba, 0x100009a128, 0x010019e089, 0x1f000c8a49, 0x0b00757923, 0x1a00360014, 0x0b09d1ad52, 0x061c6c091d,
	}
}

// specials are the texts of both.
func specials() [][]byte {
	var list [][]byte
	for _, c := range edges() {
		list = append(list, little(c.text))
	}
	for _, n := range lacking() {
		list = append(list, little(n))
	}
	return list
}

func TestP71DigitsOfEdges(t *testing.T) {
	for _, c := range edges() {
		wantDigits(t, little(c.text), c.digits[:]...)
	}
}

func TestP71LackOfEachNumber(t *testing.T) {
	for lack, n := range lacking() {
		digits := chain.Digits(little(n))
		if len(digits) != 10 || digits[8] != lack%16 || digits[9] != lack/16 {
			t.Errorf("Digits(%x) = %v; want the last two to tell %d", little(n), digits, lack)
		}
		wantDigits(t, little(n), slowDigits(little(n))...)
	}
}

// The last two digits tell what the others lack, whatever they are.
func TestP71LastDigits(t *testing.T) {
	for i := range 20000 {
		text := []byte{byte(i), byte(i >> 8), 7}
		digits := chain.Digits(text)
		if len(digits) != 10 {
			t.Fatalf("Digits(%x) = %v; want ten", text, digits)
		}
		lack := 0
		for _, digit := range digits[:8] {
			lack += 15 - digit
		}
		if digits[8]+16*digits[9] != lack || digits[8] < 0 || digits[8] > 15 {
			t.Errorf("Digits(%x) = %v; want the last two to tell %d", text, digits, lack)
		}
	}
}

func TestP72Public(t *testing.T) {
	for i, row := range [][8]string{
		{
			"66f777135446079e86ec178dc03244f3", "f14f16aefef9cca7f087ca625b466b59", "3977f5a5ffbdbf94906f6cf7b0daf72e", "34d9b404014989110231e13970c53a01",
			"cf8b5b9283b4fe377abb545297fafb23", "166236770d486d2f36ff78e08918e4a1", "7347742eb85fc09e1b01b68a58dd0610", "308286d74a10882aecdfa71046f59bc6",
		},
		{
			"7f84c355383c57f335a1c421ec10b514", "7e5ff17a8204457f496197b009663dd0", "14d88eaf6bef5e283d63582b5abd0c12", "3baf3797406397acb9b45f19f792032f",
			"21e262e6e3ca5c12784cecc096e350a0", "11aa2514b40ce9dfaeb8af6cb2a989f3", "a560610260b884348d374c5aaf89c8f9", "3c3404c3dd01e39f4846f0efbb1bf2bb",
		},
		{
			"ffc79a951465376a7c41ef78c66391af", "a2db7c027f1fbe91af787a61e6ffe7c0", "7fe282b3250586fea9e4238e4e2c2ecc", "027ef201d545932b38d50cc56e65b740",
			"5ec0d5af9fd513e2ec4d3ea5e68cf8c7", "14f3c909355e069b7397611afe32fb74", "90f3fffa785261c04f545af82271c78e", "d3c1252b2ce583fb4c4c46c34c6134a9",
		},
		{
			"f3e84f1f59363081863d602df0a1515f", "bb0f7d9a1f90343633be0027e82be28e", "f5ef69e2fbbb36251599e6267dc786eb", "4e256e0c391ad869807cb450a41335cf",
			"9ae529ab48e8c1d7ae99928ba510dd54", "0b43f6268bafbf8c97dcd67e0b1c31e5", "bc6b944588dda319a1f866ac413f965d", "df2e9c6555588cdbe1c5df15c4819af7",
		},
	} {
		for leaf, want := range row {
			wantPublic(t, seeds()[i], leaf, unhex(want), api.OK)
		}
	}
}

func TestP72Signed(t *testing.T) {
	for _, c := range []struct {
		seed, leaf int
		text, sig  string
	}{
		{0, 0, "abc", "43d361b6257f56abc80b4cb38ac27986d0472eaa08b8f48b0f36a226235d8dfa6c887f89ab6a450b77bbf01fd97b63291c815c5846ed0fdfae277a20f1caff483e6678b1f153827ad168777d5f327bc5db9d1b3c09780a7b2a5b34b2df5636aa173483a8facaa467e70131dce6592cb0e73986711b754e2a1db9027891557e3da90ccfbe9da6e8df3d181549487cee1a7d9a5adc29eb92e16663536670725496"},
		{2, 3, "abc", "b13de35dd61b594ccfe0823e2d1d460960055e69c9e6770e202bcaa987f6511a845f77cbe75d959a80db36d2c05509917ae46d88b5dd5f1164a19e050466e059e85af5bf9a4c9c19d7ebcf707bfa6d8b295f24883d790bb21cf340a635834208efc15d38b6db53c1738bd11bad26fa29cf4c1bcce0d41d5f2a76934c37e0ada8239a100f6f019b42c0671ca7e0e731f1c37260d8aff99287d78a0d90aa017977"},
		{1, 7, "abc", "84d99f6258c532ccb03550facbb1f2087b0cb7d8b7be21ea9598ed675da952ee31b63b7d9de8700e8ea2096603db11bccc363f3c2c84682e8eae2d13eaac13c25f5605d7ffc30efeb34b968344f05cf8d0a9ccafa3e030e31e6236b5dc7c5f140b408768008075bf259b30e2a69bcc9ad383af71a5b7bd3872ec11e3364448401bac807101feac2f1b5683e959cb23518adb0b8addba33c50909c385bb789587"},
		{2, 3, "", "2249e2217b42db402b13eef4e827890fe4d2792b7da8969086aa6705ccd683923d809007dbaeac7e5e052a5639f1d5d2a2341d72a67173046db69ed21f294d9ab352253f0343bd4a3477ba3a7a02c40e379f21f83948c306b28085de115cfe33321cdf316c826092e6798f83a1c42493041189e76797e220c071324f96cda1d4257fde5cb8a24800ec318fd4c4d2da67add52e6a848850f164f8e4c84e4cc8a8"},
		{1, 7, "abd", "0c8d98654320aafd895326c58a0b6ace8d95062cb18d04fbeb7495573ace859f6367faead531037a4945593ed620e5b5c305a4059c4a40534dcd58c2bbf5eaacf147128217bedfe3563d31b442bb065b4a1ff74d2901d8c838aab89fad62b63f80fc3658f91d6304b0b09d2fd31b7a50e641766c3f4791d7d3ae7f7a499cdee83f38671be0f5a37988b2bbe8c1b40c0baa2d9f004a537e258192c2765694502f"},
		{0, 0, "a text that is longer than two pieces are, by far", "6ed8b78c2c4f52cbf5e910947d82baabc959d28f6d40a94ca22702c040b6fc57fc5ccb0dc2c44adccf3312649c89fdb6cb2cb248f840b87186d6b9d0eeef6ac9fcfabe5cb2bfaeb6ed6e7d7f596212f48b444613da6523096a061ca9e5752db5398f5938ddca21833c9dea2304986c6ff7008ced5b37e0578818f2fe7d055c3d5e1a1396a67f9adb34822c2bed7708ee5dd952ba192e05bc4ebce263f7da5b85"},
	} {
		wantSign(t, seeds()[c.seed], c.leaf, []byte(c.text), unhex(c.sig), api.OK)
	}
}

func TestP72Steps(t *testing.T) {
	for _, seed := range seeds() {
		for leaf := range 8 {
			wantPublic(t, seed, leaf, slowPublic(seed, leaf), api.OK)
			for _, text := range texts() {
				wantSign(t, seed, leaf, text, slowSign(seed, leaf, text), api.OK)
			}
		}
	}
}

// Each bit of the seed counts, and so does the leaf. (That others have other public keys holds for these here, and is not promised of others.)
func TestP72EachBitCounts(t *testing.T) {
	seen := map[string]bool{}
	for leaf := range 8 {
		seed := rising(16)
		public, _ := chain.Public(seed, leaf)
		seen[string(public)] = true
		for bit := range 128 {
			seed[bit/8] ^= 1 << (bit % 8)
			public, _ := chain.Public(seed, leaf)
			seen[string(public)] = true
			wantSign(t, seed, leaf, []byte("abc"), slowSign(seed, leaf, []byte("abc")), api.OK)
			seed[bit/8] ^= 1 << (bit % 8)
		}
	}
	if len(seen) != 8*129 {
		t.Errorf("%d public keys; want %d", len(seen), 8*129)
	}
}

func TestP72WrongSeed(t *testing.T) {
	for _, seed := range wrongSeeds() {
		for _, leaf := range []int{0, 1, 7} {
			wantPublic(t, seed, leaf, nil, api.ErrArg)
			for _, text := range texts() {
				wantSign(t, seed, leaf, text, nil, api.ErrArg)
			}
		}
	}
}

func TestP72WrongLeaf(t *testing.T) {
	for _, leaf := range wrongLeaves() {
		for _, seed := range append(seeds(), wrongSeeds()...) {
			wantPublic(t, seed, leaf, nil, api.ErrArg)
			wantSign(t, seed, leaf, nil, nil, api.ErrArg)
			wantSign(t, seed, leaf, []byte("abc"), nil, api.ErrArg)
		}
	}
}

// Bytes beyond a list's end are none of it, though there is room for them.
func TestP72SpareRoom(t *testing.T) {
	wantPublic(t, rising(32)[:15], 3, nil, api.ErrArg)
	wantSign(t, rising(32)[:15], 3, []byte("abc"), nil, api.ErrArg)
	for _, fill := range []byte{0, 1, 255} {
		spare := bytes.Repeat([]byte{fill}, 500)
		seed := append(rising(16), spare...)[:16]
		text := append([]byte("abc"), spare...)[:3]
		wantDigits(t, text, 4, 15, 11, 7, 13, 13, 1, 11, 13, 2)
		wantPublic(t, seed, 3, slowPublic(rising(16), 3), api.OK)
		wantSign(t, seed, 3, text, slowSign(rising(16), 3, []byte("abc")), api.OK)
	}
}

// Whatever stands in a signature, its values are taken on, each from its digit.
func TestP73Recover(t *testing.T) {
	for leaf := range 8 {
		for _, text := range texts() {
			for _, sig := range [][]byte{make([]byte, 160), bytes.Repeat([]byte{255}, 160), rising(160), rising(200)[40:]} {
				wantRecover(t, leaf, text, sig, slowRecover(leaf, text, sig), api.OK)
			}
		}
	}
}

func TestP73WrongLeaf(t *testing.T) {
	for _, leaf := range wrongLeaves() {
		for _, long := range []int{0, 16, 159, 160, 161, 320} {
			wantRecover(t, leaf, nil, rising(long), nil, api.ErrArg)
			wantRecover(t, leaf, []byte("abc"), rising(long), nil, api.ErrArg)
		}
		wantRecover(t, leaf, nil, nil, nil, api.ErrArg)
	}
}

func TestP73WrongLength(t *testing.T) {
	for leaf := range 8 {
		for long := range 400 {
			if long != 160 {
				wantRecover(t, leaf, []byte("abc"), rising(long), nil, api.ErrBad)
				wantRecover(t, leaf, nil, make([]byte, long), nil, api.ErrBad)
			}
		}
		for _, long := range []int{416, 1600, 1<<16 + 160} {
			wantRecover(t, leaf, []byte("abc"), make([]byte, long), nil, api.ErrBad)
		}
		wantRecover(t, leaf, nil, nil, nil, api.ErrBad)
		wantRecover(t, leaf, []byte("abc"), slowSign(rising(16), leaf, []byte("abc"))[:159], nil, api.ErrBad)
	}
}

func TestP73SpareRoom(t *testing.T) {
	wantRecover(t, 3, nil, rising(320)[:159], nil, api.ErrBad)
	want := slowRecover(3, []byte("abc"), rising(160))
	for _, fill := range []byte{0, 1, 255} {
		spare := bytes.Repeat([]byte{fill}, 500)
		wantRecover(t, 3, append([]byte("abc"), spare...)[:3], append(rising(160), spare...)[:160], want, api.OK)
	}
}

func TestP74OnlyReads(t *testing.T) {
	for _, seedLong := range []int{0, 15, 16, 17, 64} {
		for _, textLong := range []int{0, 1, 3, 8, 15, 16, 300} {
			for _, sigLong := range []int{0, 159, 160, 161, 300} {
				seed, text, sig := rising(64), rising(300), rising(300)
				for _, leaf := range []int{-1, 0, 7, 8} {
					chain.Digits(text[:textLong])
					chain.Public(seed[:seedLong], leaf)
					chain.Sign(seed[:seedLong], leaf, text[:textLong])
					chain.Recover(leaf, text[:textLong], sig[:sigLong])
				}
				wantSame(t, "a seed and what is behind", seed, rising(64))
				wantSame(t, "a text and what is behind", text, rising(300))
				wantSame(t, "a signature and what is behind", sig, rising(300))
			}
		}
	}
}

// spoil turns all bytes of a list, those of its spare room too.
func spoil(list []byte) {
	wide := list[:cap(list)]
	for i := range wide {
		wide[i] ^= 255
	}
}

func TestP74DigitsAreNewMemory(t *testing.T) {
	for _, text := range texts() {
		want := slowDigits(text)
		a, b := chain.Digits(text), chain.Digits(text)
		for i := range a[:cap(a)] {
			a[:cap(a)][i] = -1
		}
		if !slices.Equal(b, want) {
			t.Errorf("another answer of Digits(%x) is %v; want %v", text, b, want)
		}
		wantDigits(t, text, want...)
	}
}

func TestP74AnswersAreNewMemory(t *testing.T) {
	text := []byte("abc")
	for leaf := range 8 {
		public, signed := slowPublic(rising(16), leaf), slowSign(rising(16), leaf, text)
		seed, sig := rising(300), join(signed, rising(300))
		calls := []func() []byte{
			func() []byte { b, _ := chain.Public(seed[:16], leaf); return b },
			func() []byte { b, _ := chain.Sign(seed[:16], leaf, text); return b },
			func() []byte { b, _ := chain.Recover(leaf, text, sig[:160]); return b },
		}
		for i, want := range [][]byte{public, signed, public} {
			a, b := calls[i](), calls[i]()
			spoil(a)
			wantSame(t, "a seed", seed, rising(300))
			wantSame(t, "a signature", sig, join(signed, rising(300)))
			wantSame(t, "a text", text, []byte("abc"))
			wantSame(t, "another answer", b, want)
			spoil(seed)
			spoil(sig)
			wantSame(t, "an answer whose seed and signature are turned", b, want)
			spoil(seed)
			spoil(sig)
			wantSame(t, "a later answer", calls[i](), want)
		}
	}
}

// Seed, text and signature may be pieces of one list.
func TestP74OneList(t *testing.T) {
	list := rising(400)
	for at := range 60 {
		seed, text, sig := join(list[at:at+16]), join(list[8:8+at]), join(list[at:at+160])
		wantSign(t, list[at:at+16], 5, list[8:8+at], slowSign(seed, 5, text), api.OK)
		wantRecover(t, 5, list[8:8+at], list[at:at+160], slowRecover(5, text, sig), api.OK)
		wantSame(t, "a list", list, rising(400))
	}
}

func TestP75RecoverOfSign(t *testing.T) {
	for _, seed := range seeds() {
		for leaf := range 8 {
			public, _ := chain.Public(seed, leaf)
			for _, text := range append(texts(), specials()...) {
				sig, e := chain.Sign(seed, leaf, text)
				if len(sig) != 160 || e != api.OK {
					t.Errorf("Sign(%x, %d, %x) = %x, %d; want 160 bytes", seed, leaf, text, sig, e)
				}
				wantRecover(t, leaf, text, sig, public, api.OK)
			}
		}
	}
}

func TestP75RecoverOfSignOfManyTexts(t *testing.T) {
	public, _ := chain.Public(rising(16), 6)
	for i := range 3000 {
		text := []byte{byte(i), byte(i >> 8)}
		sig, _ := chain.Sign(rising(16), 6, text)
		wantRecover(t, 6, text, sig, public, api.OK)
	}
}

// Of each pair both have a digit that is less than the other one's.
func TestP75UnlikeSums(t *testing.T) {
	list := append(texts(), specials()...)
	for i := range 1200 {
		list = append(list, []byte{byte(i), byte(i >> 8), 1})
	}
	var all [][]int
	for _, text := range list {
		all = append(all, chain.Digits(text))
	}
	less := func(a, b []int) bool {
		for place := range a {
			if a[place] < b[place] {
				return true
			}
		}
		return false
	}
	for i, a := range all {
		for j, b := range all {
			if mix.Sum(list[i]) != mix.Sum(list[j]) && !less(a, b) {
				t.Errorf("%x has no digit that is less than %x has: %v, %v", list[i], list[j], a, b)
			}
		}
	}
}

// Two unlike texts that have one sum are signed alike, and each one's signature is right for the other one.
func TestP75OneSum(t *testing.T) {
	for _, pair := range [][2]string{{"text 5871", "text 60059"}, {"text 177764", "text 202148"}, {"text 24711", "text 227069"}} {
		a, b := []byte(pair[0]), []byte(pair[1])
		if mix.Sum(a) != mix.Sum(b) {
			t.Fatalf("%q and %q have unlike sums", a, b)
		}
		wantDigits(t, a, slowDigits(b)...)
		sig, _ := chain.Sign(rising(16), 2, a)
		wantSign(t, rising(16), 2, b, sig, api.OK)
		wantRecover(t, 2, b, sig, slowPublic(rising(16), 2), api.OK)
	}
}

// wantOther asks that a signature is not right for the public key. (That it comes out unlike holds for these here, and is not promised of others.)
func wantOther(t *testing.T, leaf int, text, sig, public []byte) {
	t.Helper()
	got, e := chain.Recover(leaf, text, sig)
	if bytes.Equal(got, public) || len(got) != 16 || e != api.OK {
		t.Errorf("Recover(%d, %x, %x) = %x, %d; want another one", leaf, text, sig, got, e)
	}
}

func TestP75OthersAreNotRight(t *testing.T) {
	text := []byte("abc")
	for leaf := range 8 {
		public, _ := chain.Public(rising(16), leaf)
		sig, _ := chain.Sign(rising(16), leaf, text)
		for bit := range 1280 {
			sig[bit/8] ^= 1 << (bit % 8)
			wantOther(t, leaf, text, sig, public)
			sig[bit/8] ^= 1 << (bit % 8)
		}
		for other := range 8 {
			if other != leaf {
				wantOther(t, other, text, sig, public)
			}
		}
		for _, other := range texts() {
			if !bytes.Equal(other, text) {
				wantOther(t, leaf, other, sig, public)
			}
		}
		for at := range 9 {
			wantOther(t, leaf, text, join(sig[16*at+16:], sig[:16*at+16]), public)
		}
		wantRecover(t, leaf, text, sig, public, api.OK)
	}
}

func TestExamples(t *testing.T) {
	seed, text := rising(16), []byte("abc")
	public, _ := chain.Public(seed, 3)
	sig, _ := chain.Sign(seed, 3, text)
	wantRecover(t, 3, text, sig, public, api.OK)
	wantSign(t, seed, 8, text, nil, api.ErrArg)
	wantSign(t, rising(15), 3, text, nil, api.ErrArg)
	wantRecover(t, 3, text, sig[:159], nil, api.ErrBad)
}

// Whatever is handed in, each call ends, and what it may not be is refused.
func TestR1AllEnd(t *testing.T) {
	leaves := append(wrongLeaves(), 0, 1, 2, 3, 4, 5, 6, 7)
	for _, leaf := range leaves {
		for _, long := range []int{0, 1, 15, 16, 17, 159, 160, 161, 4096} {
			b := rising(long)
			_, e := chain.Public(b, leaf)
			_, f := chain.Sign(b, leaf, b)
			if isSeed := long == 16 && leaf >= 0 && leaf < 8; isSeed != (e == api.OK) || e != f {
				t.Errorf("seeds of %d bytes, leaf %d: %d, %d", long, leaf, e, f)
			}
			_, e = chain.Recover(leaf, b, b)
			if isSig := long == 160 && leaf >= 0 && leaf < 8; isSig != (e == api.OK) {
				t.Errorf("signatures of %d bytes, leaf %d: %d", long, leaf, e)
			}
			if digits := chain.Digits(b); len(digits) != 10 {
				t.Errorf("%d digits of %d bytes", len(digits), long)
			}
		}
	}
	wantDigits(t, make([]byte, 1<<22), slowDigits(make([]byte, 1<<22))...)
}

// Calls beside and after one another, refused ones among them, turn nothing for each other.
func TestR2ArgumentsAlone(t *testing.T) {
	var group sync.WaitGroup
	for worker := range 8 {
		group.Add(1)
		go func() {
			defer group.Done()
			for round := range 20 {
				leaf := (worker + round) % 8
				text := rising(worker*31 + round)
				sig := slowSign(rising(16), leaf, text)
				wantSign(t, rising(16), leaf, text, sig, api.OK)
				wantRecover(t, leaf, text, sig[:100], nil, api.ErrBad)
				wantPublic(t, rising(15), leaf, nil, api.ErrArg)
				wantPublic(t, rising(16), leaf, slowPublic(rising(16), leaf), api.OK)
				wantRecover(t, leaf, text, sig, slowPublic(rising(16), leaf), api.OK)
				wantDigits(t, text, slowDigits(text)...)
			}
		}()
	}
	group.Wait()
}
