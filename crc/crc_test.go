package crc

import (
	"bytes"
	"testing"
)

// stepByWords is Step as the chapter's words have it.
func stepByWords(crc uint32, c byte) uint32 {
	crc ^= uint32(c)
	for range 8 {
		odd := crc%2 == 1
		crc /= 2
		if odd {
			crc ^= 0xEDB88320
		}
	}
	return crc
}

// P2.1: as Step is linear, all bytes and all single bits of crc tell of all.
func TestStep(t *testing.T) {
	crcs := []uint32{0, 0xFFFFFFFF, 0xEDB88320, 0x12345678, 0x80000001}
	for i := range 32 {
		crcs = append(crcs, 1<<i, ^uint32(1<<i))
	}
	for _, crc := range crcs {
		for c := range 256 {
			if got, want := Step(crc, byte(c)), stepByWords(crc, byte(c)); got != want {
				t.Fatalf("Step(%X, %d): %X, not %X", crc, c, got, want)
			}
		}
	}
	if got := Step(0, 128); got != 0xEDB88320 {
		t.Errorf("Step(0, 128): %X", got)
	}
}

// P2.1
func TestSum(t *testing.T) {
	for _, c := range []struct {
		text string
		want uint32
	}{
		{"", 0},
		{"\x00", 0xD202EF8D},
		{"\xFF", 0xFF000000},
		{"a", 0xE8B7BE43},
		{"abc", 0x352441C2},
		{"123456789", 0xCBF43926},
		{"\x00\x00\x00\x00", 0x2144DF1C},
		{"The quick brown fox jumps over the lazy dog", 0x414FA339},
	} {
		if got := Sum([]byte(c.text)); got != c.want {
			t.Errorf("Sum(%q): %X, not %X", c.text, got, c.want)
		}
	}
	if Sum(nil) != Sum([]byte{}) {
		t.Error("nothing is not nothing")
	}
}

// P2.1: Sum is Step of each byte.
func TestSumIsSteps(t *testing.T) {
	b := make([]byte, 600)
	for i := range b {
		b[i] = byte(i * i / 3)
	}
	crc := uint32(0xFFFFFFFF)
	for i, c := range b {
		crc = stepByWords(crc, c)
		if got := Sum(b[:i+1]); got != ^crc {
			t.Fatalf("of %d bytes: %X, not %X", i+1, got, ^crc)
		}
	}
}

// R3
func TestSumChangesNothing(t *testing.T) {
	b := []byte("123456789")
	Sum(b[:4])
	if !bytes.Equal(b, []byte("123456789")) {
		t.Error(b)
	}
}

// P2.2
func TestChangedByte(t *testing.T) {
	for _, b := range [][]byte{{0}, make([]byte, 252), []byte("the books of a government")} {
		sum := Sum(b)
		for i := range b {
			was := b[i]
			for c := range 256 {
				b[i] = byte(c)
				if (Sum(b) == sum) != (b[i] == was) {
					t.Fatalf("byte %d of %d: %d for %d", i, len(b), c, was)
				}
			}
			b[i] = was
		}
	}
}
