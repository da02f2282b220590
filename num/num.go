// Package num is layer 1, numbers as bytes, the highest first: see ../../shared/doc/01-num.md.
package num

import (
	"exchequer/api"
)

// Right tells whether n may stand in size bytes.
func Right(n, size int) bool {
	// Of 8 bytes every int is right: its sign stands in the highest bit.
	return isSize(size) && (size == 8 || n >= 0 && n < 1<<(8*size))
}

// Put answers b with n's bytes behind it; b alone, unless Right.
func Put(b []byte, n, size int) []byte {
	if !Right(n, size) {
		size = 0
	}
	// New memory, for append would write into the spare room of b.
	out := make([]byte, len(b)+size)
	copy(out, b)
	for i := len(out) - 1; i >= len(b); i-- {
		out[i] = byte(n)
		n >>= 8
	}
	return out
}

// Get answers the number whose size bytes stand in b from at on.
func Get(b []byte, at, size int) (int, api.Errno) {
	if !isSize(size) || at < 0 {
		return 0, api.ErrArg
	}
	// at+size could go beyond 64 bits, len(b)-size can't.
	if at > len(b)-size {
		return 0, api.ErrShort
	}
	n := 0
	for _, c := range b[at : at+size] {
		n = n<<8 | int(c)
	}
	return n, api.OK
}

func isSize(size int) bool {
	return size == 1 || size == 2 || size == 4 || size == 8
}
