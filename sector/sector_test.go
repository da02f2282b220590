package sector

import (
	"bytes"
	"hash/crc32"
	"math"
	"slices"
	"testing"

	"exchequer/api"
)

// counted answers a page's data with unlike bytes.
func counted() []byte {
	data := make([]byte, api.Page)
	for i := range data {
		data[i] = byte(i + 1)
	}
	return data
}

// summed lets b have the sum of what follows it.
func summed(b []byte) []byte {
	sum := crc32.ChecksumIEEE(b[4:])
	copy(b, []byte{byte(sum >> 24), byte(sum >> 16), byte(sum >> 8), byte(sum)})
	return b
}

func pack(t *testing.T, page, seq int, data []byte) []byte {
	t.Helper()
	b, err := Pack(page, seq, data)
	if err != api.OK {
		t.Fatalf("Pack(%d, %d): %d", page, seq, err)
	}
	return b
}

func refused(t *testing.T, b []byte) {
	t.Helper()
	if page, seq, data, err := Unpack(b); page != 0 || seq != 0 || data != nil || err != api.ErrForm {
		t.Errorf("Unpack(%v): %d, %d, %v, %d", b, page, seq, data, err)
	}
}

var rightPages = []int{0, 1, 255, 256, 65535, 1 << 31, 1<<32 - 1}
var wrongPages = []int{math.MinInt, -1 << 32, -1, 1 << 32, 1<<32 + 1, math.MaxInt}
var rightSeqs = []int{0, 1, 1 << 31, 1 << 32, 1<<62 - 1, 1 << 62}
var wrongSeqs = []int{math.MinInt, -1 << 62, -1, 1<<62 + 1, math.MaxInt}

// P4.1
func TestRight(t *testing.T) {
	for _, page := range rightPages {
		for _, seq := range rightSeqs {
			if !Right(page, seq) {
				t.Errorf("not Right(%d, %d)", page, seq)
			}
		}
		for _, seq := range wrongSeqs {
			if Right(page, seq) {
				t.Errorf("Right(%d, %d)", page, seq)
			}
		}
	}
	for _, page := range wrongPages {
		for _, seq := range slices.Concat(rightSeqs, wrongSeqs) {
			if Right(page, seq) {
				t.Errorf("Right(%d, %d)", page, seq)
			}
		}
	}
}

// P4.1: where the parts stand, the highest bytes first.
func TestPack(t *testing.T) {
	data := counted()
	for _, c := range []struct {
		page, seq int
		head      []byte
	}{
		{0, 0, []byte{0, 0, 0, 0, 0, 0, 0, 0, 0, 0, 0, 0}},
		{0x01020304, 0x05060708090A0B0C, []byte{1, 2, 3, 4, 5, 6, 7, 8, 9, 10, 11, 12}},
		{1<<32 - 1, 1 << 62, []byte{255, 255, 255, 255, 64, 0, 0, 0, 0, 0, 0, 0}},
	} {
		want := summed(slices.Concat([]byte{0, 0, 0, 0}, c.head, data))
		if got := pack(t, c.page, c.seq, data); len(got) != api.Sector || !bytes.Equal(got, want) {
			t.Errorf("Pack(%d, %d): %v, not %v", c.page, c.seq, got, want)
		}
	}
}

// P4.1: what may not be packed.
func TestPackWrong(t *testing.T) {
	for _, page := range wrongPages {
		if b, err := Pack(page, 1, counted()); b != nil || err != api.ErrArg {
			t.Errorf("page %d: %v, %d", page, b, err)
		}
	}
	for _, seq := range wrongSeqs {
		if b, err := Pack(1, seq, counted()); b != nil || err != api.ErrArg {
			t.Errorf("seq %d: %v, %d", seq, b, err)
		}
	}
	for _, n := range []int{0, 1, api.Page - 1, api.Page + 1, api.Sector, 2 * api.Page} {
		if b, err := Pack(1, 1, make([]byte, n)); b != nil || err != api.ErrArg {
			t.Errorf("%d bytes: %v, %d", n, b, err)
		}
	}
	if b, err := Pack(1, 1, nil); b != nil || err != api.ErrArg {
		t.Error(b, err)
	}
}

// P4.2
func TestUnpackOfPack(t *testing.T) {
	for _, want := range [][]byte{counted(), make([]byte, api.Page), bytes.Repeat([]byte{255}, api.Page)} {
		for _, page := range rightPages {
			for _, seq := range rightSeqs {
				p, s, data, err := Unpack(pack(t, page, seq, want))
				if p != page || s != seq || !bytes.Equal(data, want) || err != api.OK {
					t.Errorf("of %d, %d: %d, %d, %d, %v", page, seq, p, s, err, data)
				}
			}
		}
	}
}

// P4.1: bytes of another length are none, sums or not.
func TestUnpackOfOtherLengths(t *testing.T) {
	b := pack(t, 3, 4, counted())
	for n := range api.Sector {
		refused(t, b[:n])
		if n >= 4 {
			refused(t, summed(bytes.Clone(b[:n])))
		}
	}
	refused(t, nil)
	refused(t, append(bytes.Clone(b), 0))
	refused(t, summed(append(bytes.Clone(b), 0)))
	refused(t, append(bytes.Clone(b), b...))
}

// P4.1: a byte that is changed, wherever it stands.
func TestUnpackOfChanged(t *testing.T) {
	b := pack(t, 3, 4, counted())
	for i := range b {
		for _, by := range []byte{1, 128, 255} {
			changed := bytes.Clone(b)
			changed[i] ^= by
			refused(t, changed)
		}
	}
	refused(t, make([]byte, api.Sector))
	refused(t, bytes.Repeat([]byte{255}, api.Sector))
}

// P4.1: the sum may be right, and the seq not: no Pack makes such bytes.
func TestUnpackOfWrongSeqs(t *testing.T) {
	for _, c := range []struct {
		high, low byte
		right     bool
	}{
		{0, 1, true}, {63, 255, true}, {64, 0, true},
		{64, 1, false}, {65, 0, false}, {127, 255, false}, {128, 0, false}, {192, 0, false}, {255, 255, false},
	} {
		b := pack(t, 3, 0, counted())
		b[8], b[15] = c.high, c.low
		summed(b)
		if !c.right {
			refused(t, b)
			continue
		}
		if page, seq, data, err := Unpack(b); page != 3 || seq != int(c.high)<<56+int(c.low) || !bytes.Equal(data, counted()) || err != api.OK {
			t.Errorf("%d, %d: %d, %d, %v, %d", c.high, c.low, page, seq, data, err)
		}
	}
}

// R3: nothing is shared, nor changed.
func TestShares(t *testing.T) {
	room := append(counted(), 1, 2, 3)
	b := pack(t, 1, 2, room[:api.Page])
	if !bytes.Equal(room, append(counted(), 1, 2, 3)) {
		t.Error(room)
	}
	room[0] = 99
	was := bytes.Clone(b)
	_, _, data, err := Unpack(b)
	if err != api.OK || !bytes.Equal(data, counted()) || !bytes.Equal(b, was) {
		t.Fatal(err, data)
	}
	data[0] = 98
	_ = append(data, 97)
	if !bytes.Equal(b, was) {
		t.Error("data is a piece of the sector")
	}
}
