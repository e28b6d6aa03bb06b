package sign_test

import (
	"bytes"
	"encoding/hex"
	"math"
	"sync"
	"testing"

	"charterhouse/api"
	"charterhouse/chain"
	"charterhouse/mix"
	"charterhouse/sign"
)

// rising is a text of n bytes, no two beside each other alike.
func rising(n int) []byte {
	text := make([]byte, n)
	for i := range text {
		text[i] = byte(i*37 + 11)
	}
	return text
}

// seeds are those whose bytes are all 0, all the greatest, and all unlike.
func seeds() [][]byte {
	return [][]byte{make([]byte, 16), bytes.Repeat([]byte{255}, 16), rising(16), []byte("0123456789abcdef")}
}

// wrongKeys are neither seeds nor public keys, by their lengths.
func wrongKeys() [][]byte {
	wrong := [][]byte{nil, rising(160), rising(209), rising(255), rising(256), rising(1<<16 + 16)}
	for long := range 50 {
		if long != 16 {
			wrong = append(wrong, rising(long), make([]byte, long))
		}
	}
	return wrong
}

// wrongSpents are those beside the least and the greatest one, and such as have one of them in their lowest bits.
func wrongSpents() []int {
	return []int{-1, 9, 10, 15, 16, 255, 256, 257, 264, -2, -7, -8, -9, -248, -255, -256, 1 << 16, 1<<31 - 1, -1 << 31, math.MaxInt, math.MinInt, math.MinInt + 3, math.MinInt + 8}
}

// texts are ordinary ones, and such as end where a piece of their sum does.
func texts() [][]byte {
	list := [][]byte{nil, []byte("abc"), []byte("abd"), []byte("a text that is longer than two pieces are, by far"), make([]byte, 8), bytes.Repeat([]byte{255}, 300)}
	for _, long := range []int{0, 1, 7, 8, 9, 16, 160, 209, 256, 4096} {
		list = append(list, rising(long))
	}
	return list
}

// unhex panics where a test's own text is wrong.
func unhex(text string) []byte {
	b, err := hex.DecodeString(text)
	if err != nil {
		panic(err)
	}
	return b
}

// join lays texts into memory that has no room to spare, so that the tests do not lean on what they try.
func join(parts ...[]byte) []byte {
	return []byte(string(bytes.Join(parts, nil)))
}

// slowNode is the node at of height h of a seed's tree, told from above.
func slowNode(seed []byte, h, at int) []byte {
	if h == 0 {
		public, _ := chain.Public(seed, at)
		return public
	}
	return mix.Key(join([]byte{byte(127 + h)}, slowNode(seed, h-1, 2*at), slowNode(seed, h-1, 2*at+1)))
}

func slowPublic(seed []byte) []byte {
	return slowNode(seed, 3, 0)
}

// slowSign names for each leaf the nodes that are beside those on its way up.
func slowSign(seed []byte, leaf int, text []byte) []byte {
	others := [8][3]int{{1, 1, 1}, {0, 1, 1}, {3, 0, 1}, {2, 0, 1}, {5, 3, 0}, {4, 3, 0}, {7, 2, 0}, {6, 2, 0}}[leaf]
	one, _ := chain.Sign(seed, leaf, text)
	return join([]byte{byte(leaf)}, one, slowNode(seed, 0, others[0]), slowNode(seed, 1, others[1]), slowNode(seed, 2, others[2]))
}

// slowRecovered names for each leaf the heights at which what comes of it stands on the right.
func slowRecovered(text, sig []byte) []byte {
	rights := [8]string{"lll", "rll", "lrl", "rrl", "llr", "rlr", "lrr", "rrr"}[sig[0]]
	one, _ := chain.Recover(int(sig[0]), join(text), join(sig[1:161]))
	for h := range 3 {
		other := sig[161+16*h : 177+16*h]
		if rights[h] == 'l' {
			one = mix.Key(join([]byte{byte(128 + h)}, one, other))
		} else {
			one = mix.Key(join([]byte{byte(128 + h)}, other, one))
		}
	}
	return one
}

func wantPublic(t *testing.T, seed, want []byte, e api.Errno) {
	t.Helper()
	if public, got := sign.Public(seed); !bytes.Equal(public, want) || got != e {
		t.Errorf("Public(%x) = %x, %d; want %x, %d", seed, public, got, want, e)
	}
}

// wantSign asks that one leaf more is spent, and nothing else of the signer is another.
func wantSign(t *testing.T, s api.Signer, text, want []byte) {
	t.Helper()
	out, sig, e := sign.Sign(s, text)
	if !bytes.Equal(out.Seed, s.Seed) || out.Spent != s.Spent+1 || !bytes.Equal(sig, want) || e != api.OK {
		t.Errorf("Sign(%x %d, %x) = %x %d, %x, %d; want %x", s.Seed, s.Spent, text, out.Seed, out.Spent, sig, e, want)
	}
}

// wantNoSign asks that beside the error all is zero.
func wantNoSign(t *testing.T, s api.Signer, text []byte, want api.Errno) {
	t.Helper()
	out, sig, e := sign.Sign(s, text)
	if len(out.Seed) != 0 || out.Spent != 0 || len(sig) != 0 || e != want {
		t.Errorf("Sign(%x %d, %x) = %x %d, %x, %d; want nothing, %d", s.Seed, s.Spent, text, out.Seed, out.Spent, sig, e, want)
	}
}

func wantCheck(t *testing.T, public, text, sig []byte, want bool, e api.Errno) {
	t.Helper()
	if is, got := sign.Check(public, text, sig); is != want || got != e {
		t.Errorf("Check(%x, %x, %x) = %t, %d; want %t, %d", public, text, sig, is, got, want, e)
	}
}

// wantSame asks that a list is still what it was.
func wantSame(t *testing.T, what string, list, want []byte) {
	t.Helper()
	if !bytes.Equal(list, want) {
		t.Errorf("%q: is %x; want %x", what, list, want)
	}
}

// These and all values below that are written out were reckoned apart from this program.
func TestP81Public(t *testing.T) {
	for i, want := range []string{"1bf9a92f53807084a0cd12d8d8512e63", "afaf8101dc542e61c69948f9f25ecf9b", "034ab349362ed247a7aa3f67cd40c964", "70cade2fa3101eec158cd8240c0398e0"} {
		wantPublic(t, seeds()[i], unhex(want), api.OK)
		wantPublic(t, seeds()[i], slowPublic(seeds()[i]), api.OK)
	}
}

// Each bit of the seed counts. (That others have other public keys holds for these here, and is not promised of others.)
func TestP81EachBitCounts(t *testing.T) {
	seed, seen := rising(16), map[string]bool{}
	for bit := range 129 {
		if bit < 128 {
			seed[bit/8] ^= 1 << (bit % 8)
		}
		wantPublic(t, seed, slowPublic(seed), api.OK)
		public, _ := sign.Public(seed)
		seen[string(public)] = true
		if bit < 128 {
			seed[bit/8] ^= 1 << (bit % 8)
		}
	}
	if len(seen) != 129 {
		t.Errorf("%d public keys; want 129", len(seen))
	}
}

func TestP81WrongSeed(t *testing.T) {
	for _, seed := range wrongKeys() {
		wantPublic(t, seed, nil, api.ErrArg)
	}
}

// Bytes beyond a list's end are none of it, though there is room for them.
func TestP81SpareRoom(t *testing.T) {
	wantPublic(t, rising(32)[:15], nil, api.ErrArg)
	for _, fill := range []byte{0, 1, 255} {
		wantPublic(t, append(rising(16), bytes.Repeat([]byte{fill}, 500)...)[:16], unhex("034ab349362ed247a7aa3f67cd40c964"), api.OK)
	}
}

func TestP82Signed(t *testing.T) {
	for _, c := range []struct {
		seed, leaf int
		text, sig  string
	}{
		{0, 0, "abc", "0043d361b6257f56abc80b4cb38ac27986d0472eaa08b8f48b0f36a226235d8dfa6c887f89ab6a450b77bbf01fd97b63291c815c5846ed0fdfae277a20f1caff483e6678b1f153827ad168777d5f327bc5db9d1b3c09780a7b2a5b34b2df5636aa173483a8facaa467e70131dce6592cb0e73986711b754e2a1db9027891557e3da90ccfbe9da6e8df3d181549487cee1a7d9a5adc29eb92e16663536670725496f14f16aefef9cca7f087ca625b466b59a2f7c504d64092a267ca8406b0b70c05c01a24ebc5a9e7225a2de9e5ef01f454"},
		{1, 7, "abd", "070c8d98654320aafd895326c58a0b6ace8d95062cb18d04fbeb7495573ace859f6367faead531037a4945593ed620e5b5c305a4059c4a40534dcd58c2bbf5eaacf147128217bedfe3563d31b442bb065b4a1ff74d2901d8c838aab89fad62b63f80fc3658f91d6304b0b09d2fd31b7a50e641766c3f4791d7d3ae7f7a499cdee83f38671be0f5a37988b2bbe8c1b40c0baa2d9f004a537e258192c2765694502fa560610260b884348d374c5aaf89c8f95d791d1fd2aa60630a1a9fa96d8e1fe78cd4b4fc3d3a814ee79a13cc53dd8e0d"},
		{2, 5, "", "053a9892970a6d8868f4f48377c4fceba2591ccf40cab2b82ffe5f55745d72d33b970cc915a8f7c16a0702f9d593df2c9b10db89cd1e8f59503d0dc17f0b071682fb9ecfdc7c76c0cf89ca7e9f8cf03d1e706874d964261a7ce2c49fb363d5668a47e61d9e8b857b17c93b0baf92a1b330f682e43bea342e511a13a2d7a4f935e27fd060bc76bbefd539168c7ba55ab23bdbf7b8b33bc8f4c1c48724c72fe30e185ec0d5af9fd513e2ec4d3ea5e68cf8c7005632cb35cc7a9ae3292c55353f75b0e5ac0970ca02438652c632848d43c696"},
		{3, 2, "a text that is longer than two pieces are, by far", "028caad206ae6b54ccd664097b2d3bed077739bb02ee4b758ecd76a7609dd4d68390d8356299e09403dcce8c33f884cfd75b6d8d7ac357cbfdd9c2242308b2cb0c9bd333b873f41a0fb372f11639f59f2547f978f5620b7fbfdfb5dd73578a7c2ab9efe11e4491057687b82ae34afa813d0620e637199830fe33c82cc7ba91ebd233834157f1920ee514e8116791608f4dbf9da05a098a627c3e56551dc49c3d254e256e0c391ad869807cb450a41335cf5c0d9267a85cfaaab08b249a6314f37fcb61d1afbc192965207644ec631555bf"},
	} {
		wantSign(t, api.Signer{Seed: seeds()[c.seed], Spent: c.leaf}, []byte(c.text), unhex(c.sig))
	}
}

// The nodes that stand in a signature hang on the seed and the leaf alone.
func TestP82Nodes(t *testing.T) {
	for leaf, want := range []string{
		"a2db7c027f1fbe91af787a61e6ffe7c054fcb4bc8b69c27fb0ed155896992afd2cc4513117ae7bf8f466508023810ac9",
		"ffc79a951465376a7c41ef78c66391af54fcb4bc8b69c27fb0ed155896992afd2cc4513117ae7bf8f466508023810ac9",
		"027ef201d545932b38d50cc56e65b7406a14c0c4dd556d7dac7b2b899362ad0a2cc4513117ae7bf8f466508023810ac9",
		"7fe282b3250586fea9e4238e4e2c2ecc6a14c0c4dd556d7dac7b2b899362ad0a2cc4513117ae7bf8f466508023810ac9",
		"14f3c909355e069b7397611afe32fb74005632cb35cc7a9ae3292c55353f75b0e5ac0970ca02438652c632848d43c696",
		"5ec0d5af9fd513e2ec4d3ea5e68cf8c7005632cb35cc7a9ae3292c55353f75b0e5ac0970ca02438652c632848d43c696",
		"d3c1252b2ce583fb4c4c46c34c6134a9f285cc9f1b7ef53b32a46c980f4d2e73e5ac0970ca02438652c632848d43c696",
		"90f3fffa785261c04f545af82271c78ef285cc9f1b7ef53b32a46c980f4d2e73e5ac0970ca02438652c632848d43c696",
	} {
		for _, text := range texts() {
			_, sig, e := sign.Sign(api.Signer{Seed: rising(16), Spent: leaf}, text)
			if len(sig) != 209 || int(sig[0]) != leaf || !bytes.Equal(sig[161:], unhex(want)) || e != api.OK {
				t.Errorf("Sign(%d, %x) = %x, %d; want leaf %d first, %s last", leaf, text, sig, e, leaf, want)
			}
		}
	}
}

func TestP82Parts(t *testing.T) {
	for _, seed := range seeds() {
		for leaf := range 8 {
			for _, text := range texts() {
				wantSign(t, api.Signer{Seed: seed, Spent: leaf}, text, slowSign(seed, leaf, text))
			}
		}
	}
}

func TestP82WrongSigner(t *testing.T) {
	wantNoSign(t, api.Signer{}, nil, api.ErrBad)
	for _, text := range texts() {
		for _, seed := range wrongKeys() {
			for _, spent := range []int{0, 1, 7, 8, 9, -1} {
				wantNoSign(t, api.Signer{Seed: seed, Spent: spent}, text, api.ErrBad)
			}
		}
		for _, spent := range wrongSpents() {
			for _, seed := range append(seeds(), nil, rising(15), rising(17)) {
				wantNoSign(t, api.Signer{Seed: seed, Spent: spent}, text, api.ErrBad)
			}
		}
	}
}

func TestP82Spent(t *testing.T) {
	for _, seed := range seeds() {
		for _, text := range texts() {
			wantNoSign(t, api.Signer{Seed: seed, Spent: 8}, text, api.ErrSpent)
		}
	}
}

func TestP82SpareRoom(t *testing.T) {
	wantNoSign(t, api.Signer{Seed: rising(32)[:15], Spent: 3}, []byte("abc"), api.ErrBad)
	for _, fill := range []byte{0, 1, 255} {
		spare := bytes.Repeat([]byte{fill}, 500)
		s := api.Signer{Seed: append(rising(16), spare...)[:16], Spent: 3}
		wantSign(t, s, append([]byte("abc"), spare...)[:3], slowSign(rising(16), 3, []byte("abc")))
	}
}

// Whatever stands in a signature, one public key comes of it, and no other is right.
func TestP83Check(t *testing.T) {
	for leaf := range 8 {
		for _, text := range texts() {
			for _, sig := range [][]byte{make([]byte, 209), bytes.Repeat([]byte{255}, 209), rising(209), rising(300)[91:]} {
				sig[0] = byte(leaf)
				wantCheck(t, slowRecovered(text, sig), text, sig, true, api.OK)
				wantCheck(t, make([]byte, 16), text, sig, false, api.OK)
				wantCheck(t, rising(16), text, sig, false, api.OK)
			}
		}
	}
}

func TestP83EachBitOfPublicCounts(t *testing.T) {
	for leaf := range 8 {
		sig := join([]byte{byte(leaf)}, rising(208))
		public := slowRecovered([]byte("abc"), sig)
		for bit := range 128 {
			public[bit/8] ^= 1 << (bit % 8)
			wantCheck(t, public, []byte("abc"), sig, false, api.OK)
			public[bit/8] ^= 1 << (bit % 8)
		}
		wantCheck(t, public, []byte("abc"), sig, true, api.OK)
	}
}

func TestP83CheckOfSigned(t *testing.T) {
	public := unhex("1bf9a92f53807084a0cd12d8d8512e63")
	sig := unhex("0043d361b6257f56abc80b4cb38ac27986d0472eaa08b8f48b0f36a226235d8dfa6c887f89ab6a450b77bbf01fd97b63291c815c5846ed0fdfae277a20f1caff483e6678b1f153827ad168777d5f327bc5db9d1b3c09780a7b2a5b34b2df5636aa173483a8facaa467e70131dce6592cb0e73986711b754e2a1db9027891557e3da90ccfbe9da6e8df3d181549487cee1a7d9a5adc29eb92e16663536670725496f14f16aefef9cca7f087ca625b466b59a2f7c504d64092a267ca8406b0b70c05c01a24ebc5a9e7225a2de9e5ef01f454")
	wantCheck(t, public, []byte("abc"), sig, true, api.OK)
	wantCheck(t, public, []byte("abd"), sig, false, api.OK)
	wantCheck(t, unhex("afaf8101dc542e61c69948f9f25ecf9b"), []byte("abc"), sig, false, api.OK)
}

// The public key is asked for first, whatever the signature is.
func TestP83WrongPublic(t *testing.T) {
	sig := slowSign(rising(16), 3, []byte("abc"))
	eighth := join([]byte{8}, sig[1:])
	for _, public := range wrongKeys() {
		for _, one := range [][]byte{sig, sig[:208], eighth, nil, rising(210)} {
			wantCheck(t, public, []byte("abc"), one, false, api.ErrArg)
			wantCheck(t, public, nil, one, false, api.ErrArg)
		}
	}
}

func TestP83WrongLength(t *testing.T) {
	for leaf := range 8 {
		for long := range 500 {
			if long != 209 {
				sig := make([]byte, long)
				if long > 0 {
					sig[0] = byte(leaf)
				}
				wantCheck(t, rising(16), []byte("abc"), sig, false, api.ErrBad)
			}
		}
		sig := slowSign(rising(16), leaf, []byte("abc"))
		wantCheck(t, slowPublic(rising(16)), []byte("abc"), sig[:208], false, api.ErrBad)
		wantCheck(t, slowPublic(rising(16)), []byte("abc"), sig[1:], false, api.ErrBad)
		wantCheck(t, slowPublic(rising(16)), []byte("abc"), join(sig, []byte{0}), false, api.ErrBad)
	}
	for _, long := range []int{465, 1<<16 + 209} {
		wantCheck(t, rising(16), nil, make([]byte, long), false, api.ErrBad)
	}
	wantCheck(t, rising(16), nil, nil, false, api.ErrBad)
}

func TestP83WrongLeaf(t *testing.T) {
	public, sig := slowPublic(rising(16)), slowSign(rising(16), 0, []byte("abc"))
	for leaf := 8; leaf < 256; leaf++ {
		sig[0] = byte(leaf)
		wantCheck(t, public, []byte("abc"), sig, false, api.ErrBad)
		wantCheck(t, make([]byte, 16), nil, join([]byte{byte(leaf)}, make([]byte, 208)), false, api.ErrBad)
	}
}

func TestP83SpareRoom(t *testing.T) {
	sig := slowSign(rising(16), 3, []byte("abc"))
	public := slowPublic(rising(16))
	wantCheck(t, public, []byte("abc"), sig[:208], false, api.ErrBad)
	wantCheck(t, public[:15], []byte("abc"), sig, false, api.ErrArg)
	for _, fill := range []byte{0, 1, 255} {
		spare := bytes.Repeat([]byte{fill}, 500)
		wantCheck(t, join(public, spare)[:16], join([]byte("abc"), spare)[:3], join(sig, spare)[:209], true, api.OK)
		wantCheck(t, join(public, spare)[:16], join([]byte("ab"), spare)[:2], join(sig, spare)[:209], false, api.OK)
	}
}

func TestP84OnlyReads(t *testing.T) {
	for _, keyLong := range []int{0, 15, 16, 17, 64} {
		for _, textLong := range []int{0, 1, 3, 8, 15, 16, 300} {
			for _, sigLong := range []int{0, 208, 209, 210, 300} {
				key, text, sig := rising(64), rising(300), rising(300)
				for _, leaf := range []int{-1, 0, 7, 8, 9} {
					sig[0] = byte(leaf)
					was := join(sig)
					sign.Public(key[:keyLong])
					sign.Sign(api.Signer{Seed: key[:keyLong], Spent: leaf}, text[:textLong])
					sign.Check(key[:keyLong], text[:textLong], sig[:sigLong])
					wantSame(t, "a key and what is behind", key, rising(64))
					wantSame(t, "a text and what is behind", text, rising(300))
					wantSame(t, "a signature and what is behind", sig, was)
				}
			}
		}
	}
}

// spoil turns all bytes of a list, those of its spare room too.
func spoil(list []byte) {
	wide := list[:cap(list)]
	for i := range wide {
		wide[i] ^= 255
	}
}

func TestP84PublicIsNewMemory(t *testing.T) {
	seed := rising(300)
	want := slowPublic(rising(16))
	a, _ := sign.Public(seed[:16])
	b, _ := sign.Public(seed[:16])
	spoil(a)
	wantSame(t, "a seed", seed, rising(300))
	wantSame(t, "another answer", b, want)
	spoil(seed)
	wantSame(t, "an answer whose seed is turned", b, want)
	spoil(seed)
	wantPublic(t, seed[:16], want, api.OK)
}

func TestP84SignIsNewMemory(t *testing.T) {
	for leaf := range 8 {
		want := slowSign(rising(16), leaf, []byte("abc"))
		seed, text := rising(300), []byte("abc")
		s := api.Signer{Seed: seed[:16], Spent: leaf}
		out, sig, _ := sign.Sign(s, text)
		other, otherSig, _ := sign.Sign(s, text)
		spoil(out.Seed)
		wantSame(t, "a signature beside a turned seed", sig, want)
		spoil(sig)
		wantSame(t, "a seed", seed, rising(300))
		wantSame(t, "a text", text, []byte("abc"))
		wantSame(t, "another answer's seed", other.Seed, rising(16))
		wantSame(t, "another answer's signature", otherSig, want)
		spoil(seed)
		spoil(text)
		wantSame(t, "an answer's seed, whose signer is turned", other.Seed, rising(16))
		wantSame(t, "a signature whose text is turned", otherSig, want)
		spoil(seed)
		spoil(text)
		spoil(otherSig)
		wantSame(t, "a seed beside a turned signature", other.Seed, rising(16))
		wantSign(t, s, text, want)
	}
}

// Keys, texts and signatures may be pieces of one list.
func TestP84OneList(t *testing.T) {
	list := rising(400)
	for at := range 60 {
		seed, text := join(list[at:at+16]), join(list[8:8+at])
		wantSign(t, api.Signer{Seed: list[at : at+16], Spent: at % 8}, list[8:8+at], slowSign(seed, at%8, text))
		sig := join(list[:at], slowSign(seed, at%8, text), slowPublic(seed))
		wantCheck(t, sig[at+209:], list[8:8+at], sig[at:at+209], true, api.OK)
		wantCheck(t, sig[at+209:], sig[at:at+209], sig[at:at+209], false, api.OK)
		wantSame(t, "a list", list, rising(400))
	}
}

// A signer signs eight texts, each with the next leaf, and then no more, however often it is asked.
func TestP85EightTexts(t *testing.T) {
	for i, seed := range seeds() {
		public, _ := sign.Public(seed)
		s := api.Signer{Seed: seed}
		for leaf := range 8 {
			text := texts()[(i+leaf)%len(texts())]
			next, sig, e := sign.Sign(s, text)
			if e != api.OK || next.Spent != leaf+1 || len(sig) != 209 || int(sig[0]) != leaf {
				t.Fatalf("Sign(%x %d, %x) = %d, %x, %d", s.Seed, s.Spent, text, next.Spent, sig, e)
			}
			wantCheck(t, public, text, sig, true, api.OK)
			s = next
		}
		wantNoSign(t, s, []byte("abc"), api.ErrSpent)
		wantNoSign(t, s, nil, api.ErrSpent)
	}
}

func TestP85CheckOfSign(t *testing.T) {
	for _, seed := range seeds() {
		public, _ := sign.Public(seed)
		for leaf := range 8 {
			for _, text := range texts() {
				_, sig, e := sign.Sign(api.Signer{Seed: seed, Spent: leaf}, text)
				if len(sig) != 209 || e != api.OK {
					t.Errorf("Sign(%x %d, %x) = %x, %d; want 209 bytes", seed, leaf, text, sig, e)
				}
				wantCheck(t, public, text, sig, true, api.OK)
			}
		}
	}
}

func TestP85CheckOfManyTexts(t *testing.T) {
	public, _ := sign.Public(rising(16))
	for i := range 1000 {
		text := []byte{byte(i), byte(i >> 8)}
		_, sig, _ := sign.Sign(api.Signer{Seed: rising(16), Spent: i % 8}, text)
		wantCheck(t, public, text, sig, true, api.OK)
	}
}

// What was turned is not right. (That holds for these here, and is not promised of all others.)
func TestP85OthersAreNotRight(t *testing.T) {
	text := []byte("abc")
	public, _ := sign.Public(rising(16))
	for leaf := range 8 {
		_, sig, _ := sign.Sign(api.Signer{Seed: rising(16), Spent: leaf}, text)
		for bit := 8; bit < 209*8; bit++ {
			sig[bit/8] ^= 1 << (bit % 8)
			wantCheck(t, public, text, sig, false, api.OK)
			sig[bit/8] ^= 1 << (bit % 8)
		}
		for other := range 8 {
			sig[0] = byte(other)
			wantCheck(t, public, text, sig, other == leaf, api.OK)
		}
		sig[0] = byte(leaf)
		for _, other := range texts() {
			wantCheck(t, public, other, sig, bytes.Equal(other, text), api.OK)
		}
		for _, seed := range seeds() {
			other, _ := sign.Public(seed)
			wantCheck(t, other, text, sig, bytes.Equal(seed, rising(16)), api.OK)
		}
		wantCheck(t, public, text, join(sig[:161], sig[177:193], sig[161:177], sig[193:]), false, api.OK)
		wantCheck(t, public, text, join(sig[:177], sig[193:], sig[177:193]), false, api.OK)
	}
}

// Two unlike texts that have one sum are signed alike, and each one's signature is right for the other one.
func TestP85OneSum(t *testing.T) {
	public, _ := sign.Public(rising(16))
	for i, pair := range [][2]string{{"text 5871", "text 60059"}, {"text 177764", "text 202148"}, {"text 24711", "text 227069"}} {
		a, b := []byte(pair[0]), []byte(pair[1])
		if mix.Sum(a) != mix.Sum(b) {
			t.Fatalf("%q and %q have unlike sums", a, b)
		}
		s := api.Signer{Seed: rising(16), Spent: i}
		_, sig, _ := sign.Sign(s, a)
		wantSign(t, s, b, sig)
		wantCheck(t, public, b, sig, true, api.OK)
	}
}

func TestExamples(t *testing.T) {
	s := api.Signer{Seed: rising(16)}
	public, _ := sign.Public(s.Seed)
	_, sig, _ := sign.Sign(s, []byte("abc"))
	wantCheck(t, public, []byte("abc"), sig, true, api.OK)
	wantCheck(t, public, []byte("abd"), sig, false, api.OK)
	var e api.Errno
	for range 8 {
		if s, _, e = sign.Sign(s, []byte("abc")); e != api.OK {
			t.Error(e)
		}
	}
	wantNoSign(t, s, []byte("abc"), api.ErrSpent)
	wantCheck(t, public, []byte("abc"), sig[:208], false, api.ErrBad)
	wantCheck(t, public, []byte("abc"), join([]byte{8}, sig[1:]), false, api.ErrBad)
}

// Whatever is handed in, each call ends, and what it may not be is refused.
func TestR1AllEnd(t *testing.T) {
	for _, spent := range append(wrongSpents(), 0, 1, 2, 3, 4, 5, 6, 7, 8) {
		for _, long := range []int{0, 1, 15, 16, 17, 208, 209, 210, 4096} {
			b := rising(long)
			_, e := sign.Public(b)
			if isSeed := long == 16; isSeed != (e == api.OK) {
				t.Errorf("seeds of %d bytes: %d", long, e)
			}
			_, _, e = sign.Sign(api.Signer{Seed: b, Spent: spent}, b)
			if signs := long == 16 && spent >= 0 && spent < 8; signs != (e == api.OK) {
				t.Errorf("seeds of %d bytes, of which %d are spent: %d", long, spent, e)
			}
			if long > 0 {
				b[0] = byte(spent)
			}
			_, e = sign.Check(rising(16), b, b)
			if isSig := long == 209 && b[0] < 8; isSig != (e == api.OK) {
				t.Errorf("signatures of %d bytes, leaf %d: %d", long, byte(spent), e)
			}
		}
	}
	long := make([]byte, 1<<22)
	_, sig, _ := sign.Sign(api.Signer{Seed: rising(16), Spent: 7}, long)
	wantSame(t, "a long text's signature", sig, slowSign(rising(16), 7, long))
	wantCheck(t, slowPublic(rising(16)), long, sig, true, api.OK)
}

// Calls beside and after one another, refused ones among them, turn nothing for each other.
func TestR2ArgumentsAlone(t *testing.T) {
	var group sync.WaitGroup
	for worker := range 8 {
		group.Add(1)
		go func() {
			defer group.Done()
			for round := range 20 {
				s := api.Signer{Seed: rising(16), Spent: (worker + round) % 8}
				text := rising(worker*31 + round)
				sig := slowSign(s.Seed, s.Spent, text)
				wantSign(t, s, text, sig)
				wantCheck(t, slowPublic(rising(16)), text, sig[:100], false, api.ErrBad)
				wantPublic(t, rising(15), nil, api.ErrArg)
				wantPublic(t, rising(16), slowPublic(rising(16)), api.OK)
				wantNoSign(t, api.Signer{Seed: rising(16), Spent: 8}, text, api.ErrSpent)
				wantCheck(t, slowPublic(rising(16)), text, sig, true, api.OK)
				wantSign(t, s, text, sig)
			}
		}()
	}
	group.Wait()
}
