package num

import (
	"bytes"
	"math"
	"testing"

	"exchequer/api"
)

// wrongSizes are all but 1, 2, 4 and 8; some are those, modulo a power of two.
var wrongSizes = []int{math.MinInt, -8, -1, 0, 3, 5, 6, 7, 9, 16, 32, 64, 1<<8 + 1, 1<<32 + 4, 1<<61 + 1, math.MaxInt}

// P1.1
func TestRight(t *testing.T) {
	for _, c := range []struct {
		n, size int
		want    bool
	}{
		{0, 1, true}, {1, 1, true}, {255, 1, true}, {256, 1, false}, {-1, 1, false},
		{0, 2, true}, {256, 2, true}, {65535, 2, true}, {65536, 2, false}, {-1, 2, false},
		{0, 4, true}, {65536, 4, true}, {1<<32 - 1, 4, true}, {1 << 32, 4, false}, {-1, 4, false},
		{0, 8, true}, {1 << 32, 8, true}, {-1, 8, true}, {math.MinInt, 8, true}, {math.MaxInt, 8, true},
		{math.MinInt, 1, false}, {math.MinInt, 2, false}, {math.MinInt, 4, false},
		{math.MaxInt, 1, false}, {math.MaxInt, 2, false}, {math.MaxInt, 4, false},
	} {
		if got := Right(c.n, c.size); got != c.want {
			t.Errorf("Right(%d, %d): %v", c.n, c.size, got)
		}
	}
	for _, size := range wrongSizes {
		for _, n := range []int{math.MinInt, -1, 0, 1, math.MaxInt} {
			if Right(n, size) {
				t.Errorf("Right(%d, %d)", n, size)
			}
		}
	}
}

// P1.1
func TestPut(t *testing.T) {
	ff := bytes.Repeat([]byte{255}, 8)
	for _, c := range []struct {
		b       []byte
		n, size int
		want    []byte
	}{
		{nil, 0, 1, []byte{0}},
		{nil, 255, 1, []byte{255}},
		{[]byte{7}, 0x0102, 2, []byte{7, 1, 2}},
		{[]byte{7, 8}, 0x01020304, 4, []byte{7, 8, 1, 2, 3, 4}},
		{nil, 1<<32 - 1, 4, ff[:4]},
		{[]byte{9}, 0x0102030405060708, 8, []byte{9, 1, 2, 3, 4, 5, 6, 7, 8}},
		{nil, -1, 8, ff},
		{nil, math.MinInt, 8, []byte{128, 0, 0, 0, 0, 0, 0, 0}},
		{nil, math.MaxInt, 8, append([]byte{127}, ff[1:]...)},
	} {
		if got := Put(c.b, c.n, c.size); !bytes.Equal(got, c.want) {
			t.Errorf("Put(%v, %d, %d): %v", c.b, c.n, c.size, got)
		}
	}
}

// P1.1: what isn't Right is not put.
func TestPutOfWhatIsNotRight(t *testing.T) {
	for _, size := range []int{1, 2, 4} {
		for _, n := range []int{math.MinInt, -1, 1 << (8 * size), math.MaxInt} {
			if got := Put([]byte{1, 2}, n, size); !bytes.Equal(got, []byte{1, 2}) {
				t.Errorf("Put(.., %d, %d): %v", n, size, got)
			}
		}
	}
	for _, size := range wrongSizes {
		if got := Put([]byte{1, 2}, 1, size); !bytes.Equal(got, []byte{1, 2}) {
			t.Errorf("Put(.., 1, %d): %v", size, got)
		}
		if got := Put(nil, 1, size); len(got) != 0 {
			t.Errorf("Put(nil, 1, %d): %v", size, got)
		}
	}
}

// R3: neither b nor its spare room is changed, and what is answered is new memory, also when nothing is put.
func TestPutShares(t *testing.T) {
	room := []byte{1, 2, 3, 4, 5, 6, 7, 8, 9, 10}
	was := bytes.Clone(room)
	for _, c := range [][2]int{{-1, 8}, {255, 1}, {256, 1}, {0, 3}} {
		got := Put(room[:2], c[0], c[1])
		if !bytes.Equal(room, was) {
			t.Fatalf("Put(.., %d, %d) made of b %v", c[0], c[1], room)
		}
		got[0] = 77
		if !bytes.Equal(room, was) {
			t.Fatalf("Put(.., %d, %d) shares b", c[0], c[1])
		}
	}
}

// P1.1
func TestGet(t *testing.T) {
	b := []byte{1, 2, 3, 4, 5, 6, 7, 8, 255, 254, 253, 252, 251, 250, 249, 248}
	for _, c := range []struct {
		at, size, want int
		err            api.Errno
	}{
		{0, 1, 1, api.OK}, {8, 1, 255, api.OK}, {15, 1, 248, api.OK},
		{1, 2, 0x0203, api.OK}, {8, 2, 0xFFFE, api.OK}, {14, 2, 0xF9F8, api.OK},
		{2, 4, 0x03040506, api.OK}, {8, 4, 0xFFFEFDFC, api.OK}, {12, 4, 0xFBFAF9F8, api.OK},
		{0, 8, 0x0102030405060708, api.OK}, {8, 8, -0x0001020304050608, api.OK},
		{16, 1, 0, api.ErrShort}, {15, 2, 0, api.ErrShort}, {13, 4, 0, api.ErrShort}, {9, 8, 0, api.ErrShort},
		{17, 1, 0, api.ErrShort}, {100, 8, 0, api.ErrShort},
		{math.MaxInt, 1, 0, api.ErrShort}, {math.MaxInt, 8, 0, api.ErrShort}, {math.MaxInt - 7, 8, 0, api.ErrShort},
		{-1, 1, 0, api.ErrArg}, {-8, 8, 0, api.ErrArg}, {math.MinInt, 8, 0, api.ErrArg}, {math.MinInt, 1, 0, api.ErrArg},
	} {
		if n, err := Get(b, c.at, c.size); n != c.want || err != c.err {
			t.Errorf("Get(b, %d, %d): %d, %d", c.at, c.size, n, err)
		}
	}
	for _, size := range wrongSizes {
		for _, at := range []int{-1, 0, 15, 16, math.MaxInt} {
			if n, err := Get(b, at, size); n != 0 || err != api.ErrArg {
				t.Errorf("Get(b, %d, %d): %d, %d", at, size, n, err)
			}
		}
	}
}

// P1.1, R6: a nil list is an empty one; what is behind the end of b is not seen, even if there is room.
func TestGetOfTooFew(t *testing.T) {
	room := []byte{1, 2, 3, 4, 5, 6, 7, 8}
	for _, b := range [][]byte{nil, {}, room[:0]} {
		for _, size := range []int{1, 2, 4, 8} {
			if n, err := Get(b, 0, size); n != 0 || err != api.ErrShort {
				t.Errorf("Get(%v, 0, %d): %d, %d", b, size, n, err)
			}
			if n, err := Get(b, -1, size); n != 0 || err != api.ErrArg {
				t.Errorf("Get(%v, -1, %d): %d, %d", b, size, n, err)
			}
		}
	}
	if n, err := Get(room[:7], 0, 8); n != 0 || err != api.ErrShort {
		t.Error(n, err)
	}
}

// P1.2
func TestGetOfPut(t *testing.T) {
	ns := []int{math.MinInt, math.MinInt + 1, -1 << 32, -256, -1, 0, math.MaxInt}
	for i := range 63 {
		ns = append(ns, 1<<i, 1<<i-1, 0x123456789ABCDEF>>i)
	}
	for _, head := range [][]byte{nil, {1, 2, 3}} {
		for _, size := range []int{1, 2, 4, 8} {
			for _, n := range ns {
				if !Right(n, size) {
					continue
				}
				b := Put(head, n, size)
				if got, err := Get(b, len(head), size); got != n || err != api.OK || len(b) != len(head)+size || !bytes.Equal(b[:len(head)], head) {
					t.Fatalf("of %d in %d: %d, %d in %v", n, size, got, err, b)
				}
			}
		}
	}
}
