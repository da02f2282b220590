package field

import (
	"bytes"
	"encoding/binary"
	"math"
	"slices"
	"testing"

	"exchequer/api"
)

// edges are numbers whose bytes are all of one kind, or at a kind's end.
var edges = []int{math.MinInt, math.MinInt + 1, -1 << 53, -1 << 32, -257, -256, -1, 0, 1, 255, 256, 1 << 31, 1<<32 - 1, 1 << 32, 1 << 53, 1 << 62, math.MaxInt}

// some answers many numbers, each another, from those edges on.
func some(many, from int) []int {
	nums := make([]int, many)
	for i := range nums {
		nums[i] = edges[(from+i)%len(edges)]
	}
	return nums
}

// plain is Pack, reworked by the library.
func plain(nums []int) []byte {
	var b []byte
	for i, n := range nums {
		if i < 15 {
			b = binary.BigEndian.AppendUint64(b, uint64(n))
		}
	}
	return b
}

// P17.1
func TestPack(t *testing.T) {
	ff := bytes.Repeat([]byte{255}, 8)
	for _, c := range []struct {
		nums []int
		want []byte
	}{
		{nil, nil},
		{[]int{}, nil},
		{[]int{0}, make([]byte, 8)},
		{[]int{-1}, ff},
		{[]int{math.MinInt}, []byte{128, 0, 0, 0, 0, 0, 0, 0}},
		{[]int{math.MaxInt}, append([]byte{127}, ff[1:]...)},
		{[]int{1, 2}, []byte{0, 0, 0, 0, 0, 0, 0, 1, 0, 0, 0, 0, 0, 0, 0, 2}},
		{[]int{0x0102030405060708, -2}, append([]byte{1, 2, 3, 4, 5, 6, 7, 8}, append(ff[:7:7], 254)...)},
	} {
		if got := Pack(c.nums...); !bytes.Equal(got, c.want) {
			t.Errorf("Pack(%v): %v", c.nums, got)
		}
	}
	if got := Pack(); len(got) != 0 {
		t.Errorf("Pack(): %v", got)
	}
	for many := range 40 {
		for from := range edges {
			nums := some(many, from)
			if got := Pack(nums...); !bytes.Equal(got, plain(nums)) || len(got) != 8*min(many, 15) {
				t.Errorf("Pack(%v): %v", nums, got)
			}
		}
	}
}

// P17.1
func TestUnpack(t *testing.T) {
	b := make([]byte, 15*8)
	for i := range b {
		b[i] = byte(7*i + 130)
	}
	for many := range 16 {
		got, err := Unpack(b[:8*many], many)
		if err != api.OK || len(got) != many {
			t.Fatalf("Unpack of %d: %v, %d", many, got, err)
		}
		for i, n := range got {
			if want := int(binary.BigEndian.Uint64(b[8*i:])); n != want {
				t.Errorf("Unpack of %d: number %d is %d, not %d", many, i, n, want)
			}
		}
	}
}

// P17.1: of both errors ErrArg comes first.
func TestUnpackMany(t *testing.T) {
	for _, many := range []int{math.MinInt, -1 << 61, -16, -15, -1, 16, 17, 1 << 32, 1<<32 + 1, 1 << 61, 1<<61 + 1, math.MaxInt} {
		for _, size := range []int{0, 1, 8, 16, 120, 128, 136} {
			if got, err := Unpack(make([]byte, size), many); len(got) != 0 || err != api.ErrArg {
				t.Errorf("Unpack of %d bytes, %d: %v, %d", size, many, got, err)
			}
		}
	}
}

// P17.1
func TestUnpackSize(t *testing.T) {
	for many := range 16 {
		for size := range 140 {
			want := api.ErrForm
			if size == 8*many {
				want = api.OK
			}
			got, err := Unpack(make([]byte, size), many)
			if err != want || err != api.OK && len(got) != 0 {
				t.Errorf("Unpack of %d bytes, %d: %v, %d", size, many, got, err)
			}
		}
	}
}

// P17.1, R6: no bytes are no numbers.
func TestNone(t *testing.T) {
	for _, b := range [][]byte{nil, {}} {
		if got, err := Unpack(b, 0); len(got) != 0 || err != api.OK {
			t.Errorf("Unpack(%v, 0): %v, %d", b, got, err)
		}
		if got, err := Unpack(b, 1); len(got) != 0 || err != api.ErrForm {
			t.Errorf("Unpack(%v, 1): %v, %d", b, got, err)
		}
	}
}

// P17.2
func TestThereAndBack(t *testing.T) {
	for many := range 16 {
		for from := range edges {
			nums := some(many, from)
			if got, err := Unpack(Pack(nums...), many); err != api.OK || !slices.Equal(got, nums) {
				t.Errorf("Unpack of Pack(%v): %v, %d", nums, got, err)
			}
		}
	}
	nums := some(20, 0)
	if got, err := Unpack(Pack(nums...), 15); err != api.OK || !slices.Equal(got, nums[:15]) {
		t.Errorf("Unpack of Pack(%v): %v, %d", nums, got, err)
	}
}

// R3
func TestNothingShared(t *testing.T) {
	nums := some(17, 3)
	was := slices.Clone(nums)
	b := Pack(nums[:3]...)
	if !slices.Equal(nums, was) {
		t.Errorf("Pack made %v of %v", nums, was)
	}
	for i := range b[:cap(b)] {
		b[:cap(b)][i] = 99
	}
	if got := Pack(nums[:3]...); !bytes.Equal(got, plain(was[:3])) {
		t.Errorf("Pack answers what was changed: %v", got)
	}

	b = Pack(was...)
	got, _ := Unpack(b[:24], 3)
	if !bytes.Equal(b, plain(was)) {
		t.Error("Unpack changed its bytes")
	}
	got[0], got[2] = 5, 6
	_ = append(got, 7, 8)
	if again, _ := Unpack(b[:24], 3); !slices.Equal(again, was[:3]) {
		t.Errorf("Unpack answers what was changed: %v", again)
	}
}
