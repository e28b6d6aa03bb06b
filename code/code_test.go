package code_test

import (
	"bytes"
	"math"
	"testing"

	"charterhouse/api"
	"charterhouse/code"
)

var sizes = []int{1, 2, 3, 4}

// greatest is the greatest number of a size.
func greatest(size int) int { return 1<<(8*size) - 1 }

// samples are numbers of a size: all of the small sizes; of the others those beside each power of two, and some in between.
func samples(size int) []int {
	var out []int
	if size <= 2 {
		for n := range greatest(size) + 1 {
			out = append(out, n)
		}
		return out
	}
	for bit := range 8 * size {
		for off := -1; off <= 1; off++ {
			if n := 1<<bit + off; n <= greatest(size) {
				out = append(out, n)
			}
		}
	}
	for n := 0; n <= greatest(size); n += greatest(size)/4099 + 1 {
		out = append(out, n)
	}
	return append(out, greatest(size))
}

// bytesOf tells a number's bytes by division, so that the tests do not lean on what they try.
func bytesOf(n, size int) []byte {
	var out []byte
	for range size {
		out = append(out, byte(n%256))
		n /= 256
	}
	return out
}

func wantPut(t *testing.T, n, size int, want []byte, e api.Errno) {
	t.Helper()
	b, got := code.Put(n, size)
	if !bytes.Equal(b, want) || got != e {
		t.Errorf("Put(%d, %d) = %v, %d; want %v, %d", n, size, b, got, want, e)
	}
}

func wantGet(t *testing.T, b []byte, at, size, want int, e api.Errno) {
	t.Helper()
	n, got := code.Get(b, at, size)
	if n != want || got != e {
		t.Errorf("Get(%v, %d, %d) = %d, %d; want %d, %d", b, at, size, n, got, want, e)
	}
}

func TestP11PutOrdinary(t *testing.T) {
	wantPut(t, 258, 2, []byte{2, 1}, api.OK)
	wantPut(t, 0, 1, []byte{0}, api.OK)
	wantPut(t, 7, 1, []byte{7}, api.OK)
	wantPut(t, 1, 4, []byte{1, 0, 0, 0}, api.OK)
	wantPut(t, 0x123456, 3, []byte{0x56, 0x34, 0x12}, api.OK)
	wantPut(t, 0x89abcdef, 4, []byte{0xef, 0xcd, 0xab, 0x89}, api.OK)
}

func TestP11PutLeastAndGreatest(t *testing.T) {
	for _, size := range sizes {
		wantPut(t, 0, size, make([]byte, size), api.OK)
		wantPut(t, greatest(size), size, bytes.Repeat([]byte{255}, size), api.OK)
		wantPut(t, greatest(size)+1, size, nil, api.ErrArg)
		wantPut(t, -1, size, nil, api.ErrArg)
		wantPut(t, math.MinInt, size, nil, api.ErrArg)
		wantPut(t, math.MaxInt, size, nil, api.ErrArg)
	}
}

func TestP11PutWrongSize(t *testing.T) {
	for _, size := range []int{0, 5, -1, 8, 64, math.MinInt, math.MaxInt} {
		for _, n := range []int{0, 1, -1, 255, 1 << 32} {
			wantPut(t, n, size, nil, api.ErrArg)
		}
	}
}

func TestP11GetOrdinary(t *testing.T) {
	wantGet(t, []byte{7, 2, 1}, 1, 2, 258, api.OK)
	wantGet(t, []byte{7, 2, 1}, 0, 1, 7, api.OK)
	wantGet(t, []byte{7, 2, 1}, 0, 3, 66055, api.OK)
	wantGet(t, []byte{255, 255, 255, 255}, 0, 4, 1<<32-1, api.OK)
	wantGet(t, []byte{0, 0, 0, 128}, 0, 4, 1<<31, api.OK)
}

func TestP11GetWrongSize(t *testing.T) {
	for _, size := range []int{0, 5, -1, 8, math.MinInt, math.MaxInt} {
		for at := range 9 {
			wantGet(t, make([]byte, 8), at, size, 0, api.ErrArg)
		}
		wantGet(t, nil, 0, size, 0, api.ErrArg)
	}
}

// Every place in and around texts of few bytes, with every size.
func TestP11GetPlaces(t *testing.T) {
	for long := range 7 {
		b := bytes.Repeat([]byte{1}, long)
		for at := -2; at <= long+2; at++ {
			for _, size := range sizes {
				switch {
				case at < 0 || at > long:
					wantGet(t, b, at, size, 0, api.ErrArg)
				case at+size > long:
					wantGet(t, b, at, size, 0, api.ErrBad)
				default:
					wantGet(t, b, at, size, greatest(size)/255, api.OK)
				}
			}
		}
	}
}

func TestP11GetEnds(t *testing.T) {
	b := []byte{7, 2, 1}
	wantGet(t, b, 2, 1, 1, api.OK)
	wantGet(t, b, 2, 2, 0, api.ErrBad)
	wantGet(t, b, 3, 1, 0, api.ErrBad)
	wantGet(t, b, 4, 1, 0, api.ErrArg)
	wantGet(t, b, math.MaxInt, 4, 0, api.ErrArg)
	wantGet(t, b, math.MinInt, 4, 0, api.ErrArg)
	wantGet(t, nil, 0, 1, 0, api.ErrBad)
	wantGet(t, nil, 1, 1, 0, api.ErrArg)
}

// Bytes beyond a list's end are none of it, though there is room for them.
func TestP11GetSpareRoom(t *testing.T) {
	b := []byte{7, 2, 1, 9, 9, 9}[:3]
	wantGet(t, b, 2, 2, 0, api.ErrBad)
	wantGet(t, b, 3, 1, 0, api.ErrBad)
	wantGet(t, b, 4, 1, 0, api.ErrArg)
}

func TestP12GetOnlyReads(t *testing.T) {
	room := []byte{9, 8, 7, 6, 5, 4, 3, 2}
	was := bytes.Clone(room)
	for at := -1; at <= 6; at++ {
		for size := -1; size <= 5; size++ {
			code.Get(room[:5], at, size)
			if !bytes.Equal(room, was) {
				t.Fatalf("Get at %d, %d turned %v into %v", at, size, was, room)
			}
		}
	}
}

func TestP12PutIsNewMemory(t *testing.T) {
	for _, size := range sizes {
		for _, n := range []int{0, 1, greatest(size)} {
			a, _ := code.Put(n, size)
			b, _ := code.Put(n, size)
			wide := a[:cap(a)]
			for i := range wide {
				wide[i] ^= 255
			}
			if want := bytesOf(n, size); !bytes.Equal(b, want) {
				t.Errorf("Put(%d, %d): another answer was turned into %v", n, size, b)
			}
			wantPut(t, n, size, bytesOf(n, size), api.OK)
		}
	}
}

func TestP13PutIsGot(t *testing.T) {
	for _, size := range sizes {
		for _, n := range samples(size) {
			b, e := code.Put(n, size)
			if !bytes.Equal(b, bytesOf(n, size)) || e != api.OK {
				t.Fatalf("Put(%d, %d) = %v, %d", n, size, b, e)
			}
			if got, e := code.Get(b, 0, size); got != n || e != api.OK {
				t.Fatalf("Get of Put(%d, %d) = %d, %d", n, size, got, e)
			}
		}
	}
}

// What stands around, noughts, ones or all bits, counts for nothing.
func TestP13WhateverStandsAround(t *testing.T) {
	for _, size := range sizes {
		for _, n := range []int{0, 1, 0x80, greatest(size) / 3, greatest(size)} {
			b, _ := code.Put(n&greatest(size), size)
			for _, fill := range []byte{0, 1, 255} {
				for ahead := range 5 {
					for behind := range 5 {
						wide := append(bytes.Repeat([]byte{fill}, ahead), b...)
						wide = append(wide, bytes.Repeat([]byte{fill}, behind)...)
						wantGet(t, wide, ahead, size, n&greatest(size), api.OK)
					}
				}
			}
		}
	}
}

func TestP13GotIsPut(t *testing.T) {
	for _, size := range sizes {
		for _, n := range samples(size) {
			b := bytesOf(n, size)
			got, e := code.Get(b, 0, size)
			if e != api.OK {
				t.Fatalf("Get(%v, 0, %d): %d", b, size, e)
			}
			if again, e := code.Put(got, size); !bytes.Equal(again, b) || e != api.OK {
				t.Fatalf("Put of Get of %v = %v, %d", b, again, e)
			}
		}
	}
}
