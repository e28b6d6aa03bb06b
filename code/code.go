// Package code is layer 1: numbers as bytes, the lowest first.
package code

import (
	"slices"

	"charterhouse/api"
)

const (
	minSize = 1
	maxSize = 4
	bits    = 8 // of a byte
)

// Put tells the bytes of n, so many as size says.
func Put(n, size int) ([]byte, api.Errno) {
	if !isSize(size) || !fits(n, size) {
		return nil, api.ErrArg
	}
	b := make([]byte, size)
	for i := range slices.Backward(b) {
		b[i] = byte(n >> (bits * i))
	}
	return b, api.OK
}

// Get tells the number whose bytes are the size ones of b from at on.
func Get(b []byte, at, size int) (int, api.Errno) {
	if !isSize(size) || at < 0 || at > len(b) {
		return 0, api.ErrArg
	}
	// at + size is not formed ahead of this: what is left is asked instead.
	if len(b)-at < size {
		return 0, api.ErrBad
	}
	n := 0
	// The highest byte stands last: from behind, each one only has to be put below what came.
	for _, one := range slices.Backward(b[at : at+size]) {
		n = n<<bits | int(one)
	}
	return n, api.OK
}

func isSize(size int) bool {
	return size >= minSize && size <= maxSize
}

// fits is worked out in 64 bits: the greatest size's bound need not be an int.
func fits(n, size int) bool {
	return n >= 0 && uint64(n)>>(bits*size) == 0
}
