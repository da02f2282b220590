package hash

import (
	"bytes"
	"math"
	"slices"
	"testing"
)

// key answers n bytes that are unlike those of another seed.
func key(seed, n int) []byte {
	var b []byte
	for i := range n {
		b = append(b, byte(seed*31+i*i*7+i))
	}
	return b
}

// plain works out a key's number in 64 bits.
func plain(key []byte) uint32 {
	h := uint64(2166136261)
	for _, c := range key {
		h = h - h%256 + (h%256 ^ uint64(c))
		h = h * 16777619 % (1 << 32)
	}
	return uint32(h)
}

// P9.1: numbers that are known of FNV-1a.
func TestOf(t *testing.T) {
	known := []struct {
		key  string
		want uint32
	}{
		{"", 0x811C9DC5},
		{"a", 0xE40C292C},
		{"b", 0xE70C2DE5},
		{"fo", 0x6222E842},
		{"foo", 0xA9F37ED7},
		{"foobar", 0xBF9CF968},
		{"\x00", 0x050C5D1F},
		{"\xcc\x24\x31\xc4", 0},
	}
	for _, k := range known {
		if got := Of([]byte(k.key)); got != k.want {
			t.Errorf("%q: %08x, not %08x", k.key, got, k.want)
		}
	}
}

// P9.1, R6: of nothing, be it nil or empty.
func TestOfNothing(t *testing.T) {
	if Of(nil) != 0x811C9DC5 || Of([]byte{}) != 0x811C9DC5 {
		t.Errorf("%08x, %08x", Of(nil), Of([]byte{}))
	}
}

// P9.1: each byte, and keys of many lengths.
func TestOfAll(t *testing.T) {
	for c := range 256 {
		for _, k := range [][]byte{{byte(c)}, {byte(c), 0}, {0xff, byte(c)}} {
			if got, want := Of(k), plain(k); got != want {
				t.Errorf("%v: %08x, not %08x", k, got, want)
			}
		}
	}
	for n := range 300 {
		if got, want := Of(key(n, n)), plain(key(n, n)); got != want {
			t.Errorf("%d bytes: %08x, not %08x", n, got, want)
		}
	}
}

// P9.1: a byte's place counts, and so do noughts.
func TestOfOrder(t *testing.T) {
	seen := map[uint32]string{}
	for _, k := range []string{"", "\x00", "\x00\x00", "ab", "ba", "ab\x00", "\x00ab"} {
		h := Of([]byte(k))
		if other, ok := seen[h]; ok {
			t.Errorf("%q and %q: %08x", k, other, h)
		}
		seen[h] = k
	}
}

// R3: a key is not changed, and the same key has the same number.
func TestOfKeeps(t *testing.T) {
	room := []byte("a key with room")
	want := slices.Clone(room)
	first := Of(room[:5])
	if !bytes.Equal(room, want) {
		t.Errorf("%q", room)
	}
	if Of(room[:5]) != first || Of([]byte("a key")) != first {
		t.Errorf("not %08x again", first)
	}
}

// hashes answers numbers whose bits are each 0 and 1.
func hashes() []uint32 {
	hs := []uint32{0, 1, 2, 3, 0x12345678, 0x811C9DC5, 0x80000000, 0x7FFFFFFF, 0x40000000, 0x3FFFFFFF, math.MaxUint32}
	for i := range 32 {
		hs = append(hs, 1<<i, ^uint32(1<<i), Of(key(i, 9)))
	}
	return hs
}

// P9.1: modulo 2^depth.
func TestSlot(t *testing.T) {
	for _, h := range hashes() {
		two := 1
		for depth := range 31 {
			if got := Slot(h, depth); got != int(h)%two {
				t.Errorf("Slot(%08x, %d): %x", h, depth, got)
			}
			two *= 2
		}
	}
}

// P9.1: some by hand.
func TestSlotByHand(t *testing.T) {
	known := []struct {
		h           uint32
		depth, want int
	}{
		{0xFFFFFFFF, 0, 0},
		{0xFFFFFFFE, 1, 0},
		{0xFFFFFFFF, 1, 1},
		{0x0000000D, 3, 5},
		{0x12345678, 10, 0x278},
		{0xFFFFFFFF, 30, 0x3FFFFFFF},
		{0xC0000000, 30, 0},
	}
	for _, k := range known {
		if got := Slot(k.h, k.depth); got != k.want {
			t.Errorf("Slot(%08x, %d): %x, not %x", k.h, k.depth, got, k.want)
		}
	}
}

// P9.1: a depth is held from 0 to 30.
func TestSlotHeld(t *testing.T) {
	for _, h := range hashes() {
		for _, depth := range []int{-1, -2, -30, -31, -32, -63, -64, math.MinInt32, math.MinInt} {
			if got := Slot(h, depth); got != 0 {
				t.Errorf("Slot(%08x, %d): %x", h, depth, got)
			}
		}
		for _, depth := range []int{31, 32, 33, 62, 63, 64, 65, math.MaxInt32, math.MaxInt} {
			if got := Slot(h, depth); got != int(h%(1<<30)) {
				t.Errorf("Slot(%08x, %d): %x", h, depth, got)
			}
		}
	}
}

// P9.2
func TestSlotOfOneMore(t *testing.T) {
	for _, h := range hashes() {
		for depth := range 30 {
			less, more := Slot(h, depth), Slot(h, depth+1)
			if more != less && more != less+1<<depth {
				t.Errorf("Slot of %08x: %x at %d, %x of one more", h, less, depth, more)
			}
		}
	}
}

// P9.2: both are to be seen at each depth.
func TestSlotBoth(t *testing.T) {
	for depth := range 30 {
		if Slot(math.MaxUint32, depth+1) == Slot(math.MaxUint32, depth) {
			t.Errorf("no more at %d", depth+1)
		}
		if Slot(1<<depth-1, depth+1) != Slot(1<<depth-1, depth) {
			t.Errorf("more at %d", depth+1)
		}
	}
}
