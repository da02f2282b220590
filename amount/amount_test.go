package amount

import (
	"math"
	"math/big"
	"slices"
	"testing"

	"exchequer/api"
)

// most is MaxTotal, written out.
const most = 4611686018427387904

// edges are numbers near to where what fits, or is right, ends.
func edges() []int {
	ns := []int{math.MinInt, math.MinInt + 1, -3 << 61, -most - 2, -most - 1, -most, -most + 1, most - 1, most, most + 1, most + 2, 3 << 61, math.MaxInt - 1, math.MaxInt}
	for i := range 62 {
		ns = append(ns, 1<<i, 1<<i-1, 1-1<<i, -1<<i, -1-1<<i)
	}
	return ns
}

// fits works out with numbers of any size whether one fits.
func fits(n *big.Int) bool {
	return n.CmpAbs(big.NewInt(most)) <= 0
}

// together adds numbers of any size, one by one from 0 on; false, unless all of them, and all sums, fit.
func together(l ...int) (int, bool) {
	sum := new(big.Int)
	for _, n := range l {
		one := big.NewInt(int64(n))
		sum.Add(sum, one)
		if !fits(one) || !fits(sum) {
			return 0, false
		}
	}
	return int(sum.Int64()), true
}

// is looks whether a sum is the one that is wanted; or 0 with ErrRange.
func is(t *testing.T, got int, err api.Errno, want int, ok bool) {
	t.Helper()
	code := api.OK
	if !ok {
		want, code = 0, api.ErrRange
	}
	if got != want || err != code {
		t.Errorf("%d, %d, not %d, %d", got, err, want, code)
	}
}

// P15.1
func TestFits(t *testing.T) {
	for _, c := range []struct {
		n    int
		want bool
	}{
		{0, true}, {1, true}, {-1, true},
		{most - 1, true}, {most, true}, {most + 1, false},
		{-most + 1, true}, {-most, true}, {-most - 1, false},
		{math.MaxInt, false}, {math.MinInt, false}, {math.MinInt + 1, false},
	} {
		if got := Fits(c.n); got != c.want {
			t.Errorf("Fits(%d): %v", c.n, got)
		}
	}
	for _, n := range edges() {
		if got := Fits(n); got != fits(big.NewInt(int64(n))) {
			t.Errorf("Fits(%d): %v", n, got)
		}
	}
}

// P15.1: sums by hand, at the edges and beyond 64 bits.
func TestAddByHand(t *testing.T) {
	for _, c := range []struct {
		a, b, want int
		ok         bool
	}{
		{0, 0, 0, true}, {1, 2, 3, true}, {5, -7, -2, true}, {-5, -7, -12, true},
		{most, 0, most, true}, {0, -most, -most, true}, {most - 1, 1, most, true}, {1 - most, -1, -most, true},
		{most, -most, 0, true}, {-most, most, 0, true}, {most / 2, most / 2, most, true}, {-most / 2, -most / 2, -most, true},
		{most, 1, 0, false}, {1, most, 0, false}, {-most, -1, 0, false}, {-1, -most, 0, false},
		{most, most, 0, false}, {-most, -most, 0, false}, {most / 2, most/2 + 1, 0, false},
		{most + 1, 0, 0, false}, {0, most + 1, 0, false}, {-most - 1, 0, 0, false}, {0, -most - 1, 0, false},
		{most + 1, -1, 0, false}, {-1, most + 1, 0, false}, {-most - 1, 1, 0, false}, {1, -most - 1, 0, false},
		{most + 1, -most - 1, 0, false}, {math.MaxInt, math.MaxInt, 0, false}, {math.MinInt, math.MinInt, 0, false},
		{math.MaxInt, math.MinInt, 0, false}, {math.MaxInt, 1, 0, false}, {math.MinInt, -1, 0, false}, {math.MinInt, most, 0, false},
	} {
		got, err := Add(c.a, c.b)
		is(t, got, err, c.want, c.ok)
	}
}

// P15.1: each of the edges with each.
func TestAdd(t *testing.T) {
	for _, a := range edges() {
		for _, b := range edges() {
			got, err := Add(a, b)
			want, ok := together(a, b)
			is(t, got, err, want, ok)
			if t.Failed() {
				t.Fatalf("Add(%d, %d)", a, b)
			}
		}
	}
}

// P15.1: sums by hand; in the order that is told, one by one.
func TestSumByHand(t *testing.T) {
	for _, c := range []struct {
		l    []int
		want int
		ok   bool
	}{
		{nil, 0, true}, {[]int{}, 0, true}, {[]int{0}, 0, true}, {[]int{7}, 7, true}, {[]int{-7}, -7, true},
		{[]int{1, 2, 3}, 6, true}, {[]int{1, -2, 3, -4}, -2, true},
		{[]int{most}, most, true}, {[]int{-most}, -most, true}, {[]int{most + 1}, 0, false}, {[]int{-most - 1}, 0, false},
		{[]int{most, -1, 1}, most, true}, {[]int{most, 1, -1}, 0, false}, {[]int{-1, most, 1}, most, true},
		{[]int{-most, 1, -1}, -most, true}, {[]int{-most, -1, 1}, 0, false},
		{[]int{most, -most, -most, most, 5}, 5, true},
		{[]int{most, most, -most}, 0, false}, {[]int{most, most, most, most}, 0, false}, {[]int{-most, -most, most, most}, 0, false},
		{[]int{-1, most + 1}, 0, false}, {[]int{1, 2, math.MaxInt}, 0, false}, {[]int{math.MinInt, 1, 2}, 0, false},
		{[]int{math.MinInt, math.MinInt}, 0, false}, {[]int{1, 2, math.MinInt, 3, most}, 0, false},
	} {
		got, err := Sum(c.l...)
		is(t, got, err, c.want, c.ok)
		if t.Failed() {
			t.Fatalf("Sum(%v)", c.l)
		}
	}
	if got, err := Sum(); got != 0 || err != api.OK {
		t.Errorf("Sum(): %d, %d", got, err)
	}
}

// P15.1: of three edges each, and of many.
func TestSum(t *testing.T) {
	few := []int{math.MinInt, -most - 1, -most, -most / 2, -1, 0, 1, most/2 + 1, most - 1, most, most + 1, math.MaxInt}
	for _, a := range few {
		for _, b := range few {
			for _, c := range few {
				got, err := Sum(a, b, c)
				want, ok := together(a, b, c)
				is(t, got, err, want, ok)
				if t.Failed() {
					t.Fatalf("Sum(%d, %d, %d)", a, b, c)
				}
			}
		}
	}
	var l []int
	for i := range 1000 {
		l = append(l, most/1000-i, 2*i)
		got, err := Sum(l...)
		want, ok := together(l...)
		is(t, got, err, want, ok)
	}
}

// R3
func TestSumKeeps(t *testing.T) {
	room := []int{1, 2, 3, 4, 5}
	want := slices.Clone(room)
	for range 2 {
		if got, err := Sum(room[:3]...); got != 6 || err != api.OK {
			t.Errorf("%d, %d", got, err)
		}
	}
	if !slices.Equal(room, want) {
		t.Errorf("%v", room)
	}
}

// P15.1
func TestRight(t *testing.T) {
	for _, c := range []struct {
		n    int
		want bool
	}{
		{math.MinInt, false}, {-9007199254740992, false}, {-1, false}, {0, false},
		{1, true}, {2, true}, {9007199254740991, true}, {9007199254740992, true},
		{9007199254740993, false}, {most, false}, {1<<32 + 1, true}, {1<<53 + 1<<32, false}, {math.MaxInt, false},
	} {
		if got := Right(c.n); got != c.want {
			t.Errorf("Right(%d): %v", c.n, got)
		}
	}
}

// P15.1
func TestTextByHand(t *testing.T) {
	for _, c := range []struct {
		n    int
		want string
	}{
		{0, "0"}, {1, "1"}, {9, "9"}, {10, "10"}, {99, "99"}, {100, "100"}, {101, "101"}, {1010, "1010"}, {1000000, "1000000"},
		{-1, "-1"}, {-9, "-9"}, {-10, "-10"}, {-5010, "-5010"},
		{api.MaxAmount, "9007199254740992"}, {api.MaxTotal, "4611686018427387904"}, {-api.MaxTotal, "-4611686018427387904"},
		{math.MaxInt, "9223372036854775807"}, {-math.MaxInt, "-9223372036854775807"}, {math.MinInt, "-9223372036854775808"},
	} {
		if got := Text(c.n); got != c.want {
			t.Errorf("Text(%d): %q", c.n, got)
		}
	}
}

// P15.1
func TestText(t *testing.T) {
	for n := -1100; n <= 1100; n++ {
		isText(t, n)
	}
	for _, n := range edges() {
		isText(t, n)
	}
}

func isText(t *testing.T, n int) {
	t.Helper()
	if got, want := Text(n), big.NewInt(int64(n)).String(); got != want {
		t.Errorf("Text(%d): %q, not %q", n, got, want)
	}
}

// P15.2
func TestTakenOff(t *testing.T) {
	added := 0
	for _, a := range edges() {
		for _, b := range edges() {
			sum, err := Add(a, b)
			if err != api.OK {
				continue
			}
			added++
			if was, err := Add(sum, -b); was != a || err != api.OK {
				t.Fatalf("%d and %d: %d; %d taken off: %d, %d", a, b, sum, b, was, err)
			}
			if none, err := Sum(a, b, -b, -a); none != 0 || err != api.OK {
				t.Fatalf("Sum of %d, %d and their contraries: %d, %d", a, b, none, err)
			}
		}
	}
	if added < 10000 {
		t.Errorf("only %d could be added", added)
	}
}
