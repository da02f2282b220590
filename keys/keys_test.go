package keys

import (
	"bytes"
	"cmp"
	"encoding/binary"
	"math"
	"slices"
	"testing"

	"exchequer/api"
)

const top = 1<<32 - 1

// edges are numbers that may stand in keys, rising.
var edges = []int{0, 1, 2, 127, 128, 255, 256, 257, 65535, 65536, 1<<24 - 1, 1 << 24, 1<<31 - 1, 1 << 31, top - 1, top}

// some answers many numbers from those edges on.
func some(many, from int) []int {
	nums := make([]int, many)
	for i := range nums {
		nums[i] = edges[(from+3*i)%len(edges)]
	}
	return nums
}

// P18.1
func TestKey(t *testing.T) {
	for _, c := range []struct {
		tag  byte
		nums []int
		want []byte
	}{
		{'Y', []int{2020}, []byte{'Y', 0, 0, 7, 228}},
		{'Y', nil, []byte{'Y'}},
		{0, []int{}, []byte{0}},
		{255, []int{0}, []byte{255, 0, 0, 0, 0}},
		{'B', []int{2020, 100, 5010}, []byte{'B', 0, 0, 7, 228, 0, 0, 0, 100, 0, 0, 19, 146}},
		{'E', []int{0x01020304}, []byte{'E', 1, 2, 3, 4}},
		{'E', []int{top}, []byte{'E', 255, 255, 255, 255}},
		{'E', []int{top - 1}, []byte{'E', 255, 255, 255, 254}},
		{'J', []int{1, 2, 3, 4, 5, 6, 7}, []byte{'J', 0, 0, 0, 1, 0, 0, 0, 2, 0, 0, 0, 3, 0, 0, 0, 4, 0, 0, 0, 5, 0, 0, 0, 6, 0, 0, 0, 7}},
	} {
		if got := Key(c.tag, c.nums...); !bytes.Equal(got, c.want) {
			t.Errorf("Key(%d, %v): %v", c.tag, c.nums, got)
		}
	}
	for tag := range 256 {
		nums := some(tag%8, tag)
		want := []byte{byte(tag)}
		for _, n := range nums {
			want = binary.BigEndian.AppendUint32(want, uint32(n))
		}
		if got := Key(byte(tag), nums...); !bytes.Equal(got, want) {
			t.Errorf("Key(%d, %v): %v", tag, nums, got)
		}
	}
}

// P18.1
func TestKeyHolds(t *testing.T) {
	for _, c := range [][2]int{
		{math.MinInt, 0}, {math.MinInt + 1, 0}, {-1 << 33, 0}, {-1 << 32, 0}, {-1<<32 + 7, 0}, {-2, 0}, {-1, 0}, {0, 0}, {1, 1},
		{top, top}, {top + 1, top}, {top + 2, top}, {1<<33 + 5, top}, {1 << 62, top}, {math.MaxInt, top},
	} {
		for place := range 7 {
			nums, want := some(7, place), some(7, place)
			nums[place], want[place] = c[0], c[1]
			if got := Key('N', nums...); !bytes.Equal(got, Key('N', want...)) {
				t.Errorf("Key('N', %v): %v", nums, got)
			}
		}
	}
}

// P18.1
func TestKeyOfMany(t *testing.T) {
	for many := range 40 {
		nums := some(many, many)
		got := Key('L', nums...)
		if len(got) != 1+4*min(many, 7) || len(got) > api.MaxKey || !bytes.Equal(got, Key('L', nums[:min(many, 7)]...)) {
			t.Errorf("Key('L', %v): %v", nums, got)
		}
	}
}

// P18.1
func TestSplit(t *testing.T) {
	for _, c := range []struct {
		key  []byte
		tag  byte
		nums []int
	}{
		{[]byte{'Y'}, 'Y', nil},
		{[]byte{0}, 0, nil},
		{[]byte{0, 0, 0, 0, 0}, 0, []int{0}},
		{[]byte{'Y', 0, 0, 7, 228}, 'Y', []int{2020}},
		{[]byte{255, 255, 255, 255, 255, 1, 2, 3, 4}, 255, []int{top, 0x01020304}},
		{[]byte{'x', 128, 0, 0, 0}, 'x', []int{1 << 31}},
	} {
		if tag, nums, ok := Split(c.key); tag != c.tag || !slices.Equal(nums, c.nums) || !ok {
			t.Errorf("Split(%v): %d, %v, %v", c.key, tag, nums, ok)
		}
	}
	for tag := range 256 {
		for many := range 8 {
			nums := some(many, tag)
			if back, got, ok := Split(Key(byte(tag), nums...)); back != byte(tag) || !slices.Equal(got, nums) || !ok {
				t.Errorf("Split of Key(%d, %v): %d, %v, %v", tag, nums, back, got, ok)
			}
		}
	}
}

// P18.1: bytes that are no Key's.
func TestSplitWrong(t *testing.T) {
	for size := range 100 {
		key := bytes.Repeat([]byte{'N'}, size)
		may := size%4 == 1 && size <= 29
		tag, nums, ok := Split(key)
		if ok != may || !ok && (tag != 0 || len(nums) != 0) {
			t.Errorf("Split of %d bytes: %d, %v, %v", size, tag, nums, ok)
		}
		if ok && !bytes.Equal(Key(tag, nums...), key) {
			t.Errorf("Split of %d bytes: %d, %v", size, tag, nums)
		}
	}
	// R6
	if tag, nums, ok := Split(nil); tag != 0 || len(nums) != 0 || ok {
		t.Errorf("Split(nil): %d, %v, %v", tag, nums, ok)
	}
}

// P18.1, R3
func TestTags(t *testing.T) {
	want := []byte{'B', 'D', 'E', 'F', 'J', 'L', 'N', 'O', 'S', 'Y'}
	for range 2 {
		got := Tags()
		if !bytes.Equal(got, want) {
			t.Fatalf("Tags(): %q", got)
		}
		for i := range got[:cap(got)] {
			got[:cap(got)][i] = 'x'
		}
	}
}

// P18.2
func TestOrder(t *testing.T) {
	var lists [][]int
	for _, a := range edges {
		for _, b := range edges {
			lists = append(lists, []int{a, b})
		}
	}
	for _, a := range lists {
		for _, b := range lists {
			if got := bytes.Compare(Key('N', a...), Key('N', b...)); got != slices.Compare(a, b) {
				t.Errorf("Keys of %v and %v: %d", a, b, got)
			}
		}
	}
	for many := 1; many <= 7; many++ {
		for place := range many {
			a, b := some(many, 5), some(many, 5)
			a[place], b[place] = 255, 256
			// What stands behind turns nothing round.
			for i := place + 1; i < many; i++ {
				a[i], b[i] = top, 0
			}
			if bytes.Compare(Key('J', a...), Key('J', b...)) >= 0 {
				t.Errorf("Keys of %v and %v", a, b)
			}
		}
	}
	for i := range edges[1:] {
		if got := bytes.Compare(Key('E', edges[i]), Key('E', edges[i+1])); got != cmp.Compare(edges[i], edges[i+1]) {
			t.Errorf("Keys of %d and %d: %d", edges[i], edges[i+1], got)
		}
	}
}

// R3
func TestNothingShared(t *testing.T) {
	nums := []int{-1, 5, 1 << 40, 7, 8, 9, 10, 11}
	was := slices.Clone(nums)
	key := Key('B', nums[:3]...)
	if !slices.Equal(nums, was) {
		t.Errorf("Key made %v of %v", nums, was)
	}
	for i := range key[:cap(key)] {
		key[:cap(key)][i] = 1
	}
	if got := Key('B', nums[:3]...); !bytes.Equal(got, Key('B', 0, 5, top)) {
		t.Errorf("Key answers what was changed: %v", got)
	}

	key = Key('B', 1, 2, 3, 4)
	_, got, _ := Split(key[:9])
	got[0], got[1] = 77, 78
	_ = append(got, 79, 80)
	if !bytes.Equal(key, Key('B', 1, 2, 3, 4)) {
		t.Errorf("Split's answer is shared: %v", key)
	}
	if _, again, _ := Split(key[:9]); !slices.Equal(again, []int{1, 2}) {
		t.Errorf("Split answers what was changed: %v", again)
	}
}
