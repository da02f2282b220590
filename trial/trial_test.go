package trial

import (
	"bytes"
	"encoding/binary"
	"math"
	"slices"
	"testing"

	"exchequer/api"
	"exchequer/bal"
	"exchequer/disk"
	"exchequer/entry"
	"exchequer/kv"
	"exchequer/view"
	"exchequer/years"
)

const (
	top = 1<<32 - 1
	// most is MaxTotal, written out.
	most = 4611686018427387904
)

// keyOf is a balance's key, reworked by the library.
func keyOf(nums ...uint32) []byte {
	key := []byte{'B'}
	for _, n := range nums {
		key = binary.BigEndian.AppendUint32(key, n)
	}
	return key
}

// valueOf is numbers as a value, reworked by the library.
func valueOf(nums ...int) []byte {
	var value []byte
	for _, n := range nums {
		value = binary.BigEndian.AppendUint64(value, uint64(n))
	}
	return value
}

// stand lets a value stand at a key.
func stand(t *testing.T, v *view.View, key, value []byte) {
	t.Helper()
	if err := v.Put(key, value); err != api.OK {
		t.Fatalf("Put: %d", err)
	}
}

// of is a line of a fund, an object and an amount.
func of(fund, object, amount int) api.Line {
	return api.Line{Fund: fund, Object: object, Amount: amount}
}

// with is a view in which lines are the balances of a year.
func with(t *testing.T, year uint32, l ...api.Line) *view.View {
	t.Helper()
	v := view.New(nil)
	for _, one := range l {
		stand(t, v, keyOf(year, uint32(one.Fund), uint32(one.Object)), valueOf(one.Amount))
	}
	return v
}

// open is a view with open years.
func open(t *testing.T, l ...int) *view.View {
	t.Helper()
	v := view.New(nil)
	for _, year := range l {
		if err := years.Open(v, year); err != api.OK {
			t.Fatalf("Open %d: %d", year, err)
		}
	}
	return v
}

// put puts an entry of a year.
func put(t *testing.T, v *view.View, year int, l ...api.Line) {
	t.Helper()
	if _, err := entry.Put(v, api.Entry{Year: year, Kind: api.EntryPost}, l); err != api.OK {
		t.Fatalf("Put %v: %d", l, err)
	}
}

func sums(t *testing.T, v *view.View, year int, want ...api.Sum) {
	t.Helper()
	if got := Sums(v, year); !slices.Equal(got, want) {
		t.Errorf("Sums %d: %v, not %v", year, got, want)
	}
}

func due(t *testing.T, v *view.View, year, from, to int) {
	t.Helper()
	if a, b := Due(v, year); a != from || b != to {
		t.Errorf("Due %d: %d, %d, not %d, %d", year, a, b, from, to)
	}
}

func right(t *testing.T, v *view.View, year int, want bool) {
	t.Helper()
	if got := Right(v, year); got != want {
		t.Errorf("Right %d: %t", year, got)
	}
}

// nothing looks that there is nothing of a year, which is right.
func nothing(t *testing.T, v *view.View, l ...int) {
	t.Helper()
	for _, year := range l {
		sums(t, v, year)
		due(t, v, year, 0, 0)
		right(t, v, year, true)
	}
}

// P27.1: the chapter's example.
func TestNone(t *testing.T) {
	nothing(t, view.New(nil), 2020, 2021, 0, -1)
	nothing(t, open(t, 2020), 2020)
}

// P27.1, P27.2: the document's first example, and its second.
func TestExamples(t *testing.T) {
	v := open(t, 2020)
	put(t, v, 2020, of(100, 5010, 5), of(200, 1010, -5))
	sums(t, v, 2020, api.Sum{Fund: 100, Debits: 5, Credits: 5}, api.Sum{Fund: 200, Debits: 5, Credits: 5})
	due(t, v, 2020, 5, 5)
	right(t, v, 2020, true)
	if _, err := entry.Back(v, 1); err != api.OK {
		t.Fatalf("Back: %d", err)
	}
	nothing(t, v, 2020)
}

// P27.1: funds rise, and each has what is above 0 and what is below 0 of all its objects.
func TestSums(t *testing.T) {
	v := with(t, 2020,
		of(300, 1010, -1),
		of(100, 5010, 5), of(100, 1010, -7), of(100, 4000, -2), of(100, 1900, 30), of(100, 2900, -400),
		of(7, 1010, 9),
		of(256, 1010, 11), of(256, 5999, 12),
		of(65536, 1, -13), of(65536, 2, -14),
		of(255, 3000, 1),
	)
	sums(t, v, 2020,
		api.Sum{Fund: 7, Debits: 9},
		api.Sum{Fund: 100, Debits: 35, Credits: 409},
		api.Sum{Fund: 255, Debits: 1},
		api.Sum{Fund: 256, Debits: 23},
		api.Sum{Fund: 300, Credits: 1},
		api.Sum{Fund: 65536, Credits: 27},
	)
	due(t, v, 2020, 30, 400)
	right(t, v, 2020, false)
	nothing(t, v, 2019, 2021)
}

// P27.1: a balance of 0, which bal.Add leaves to no one, is one too.
func TestNought(t *testing.T) {
	v := with(t, 2020, of(100, 1010, 0), of(200, 1010, 3), of(200, 1900, 0), of(200, 5010, -3), of(300, 2900, 0))
	sums(t, v, 2020, api.Sum{Fund: 100}, api.Sum{Fund: 200, Debits: 3, Credits: 3}, api.Sum{Fund: 300})
	due(t, v, 2020, 0, 0)
	right(t, v, 2020, true)
}

// P27.1: what is no balance (25) counts for nothing.
func TestNoBalances(t *testing.T) {
	v := view.New(nil)
	for _, key := range [][]byte{{'B'}, keyOf(2020), keyOf(2020, 100), keyOf(2020, 100, 1900, 0), append(keyOf(2020, 100, 1900), 0), keyOf(2020, 100, 1900)[:12]} {
		stand(t, v, key, valueOf(7))
	}
	for _, tag := range []byte{'A', 'C', 'b'} {
		stand(t, v, append([]byte{tag}, keyOf(2020, 100, 1900)[1:]...), valueOf(7))
	}
	stand(t, v, keyOf(2020, 200, 1900), valueOf(7, 7))
	stand(t, v, keyOf(2020, 300, 1900), valueOf(7)[1:])
	stand(t, v, keyOf(2020, 400, 1900), nil)
	nothing(t, v, 2020)
	stand(t, v, keyOf(2020, 300, 2900), valueOf(-8))
	sums(t, v, 2020, api.Sum{Fund: 300, Credits: 8})
	due(t, v, 2020, 0, 8)
	right(t, v, 2020, false)
}

// P27.1: each year has its own; what is no year has nothing, whatever stands at the years' ends.
func TestYears(t *testing.T) {
	v := view.New(nil)
	for i, year := range []uint32{0, 1, 2020, 2021, top - 1, top} {
		stand(t, v, keyOf(year, 100, 1900), valueOf(i+1))
		stand(t, v, keyOf(year, 100, 2900), valueOf(-i-2))
	}
	for i, year := range []int{0, 1, 2020, 2021, top - 1, top} {
		sums(t, v, year, api.Sum{Fund: 100, Debits: i + 1, Credits: i + 2})
		due(t, v, year, i+1, i+2)
		right(t, v, year, false)
	}
	nothing(t, v, math.MinInt, math.MinInt+2020, -1<<32, -2020, -1, top+1, 1<<32+1, 1<<32+2020, math.MaxInt, 2019, 2022)
}

// P27.1: only these two objects are due, of whatever fund, and on whichever side they are.
func TestDue(t *testing.T) {
	for _, c := range []struct {
		l        []api.Line
		from, to int
	}{
		{[]api.Line{of(100, 1900, 5)}, 5, 0},
		{[]api.Line{of(100, 2900, -5)}, 0, 5},
		{[]api.Line{of(100, 1900, -5)}, -5, 0},
		{[]api.Line{of(100, 2900, 5)}, 0, -5},
		{[]api.Line{of(100, 1900, 5), of(200, 1900, 6), of(999, 1900, -1)}, 10, 0},
		{[]api.Line{of(100, 2900, -5), of(200, 2900, -6), of(999, 2900, 1)}, 0, 10},
		{[]api.Line{of(7, 1900, 1), of(7, 2900, -20), of(0, 1900, 300), of(top, 2900, -4000)}, 301, 4020},
		{[]api.Line{of(100, 1010, 5), of(100, 3000, 6), of(100, 1899, 7), of(100, 1901, 8), of(100, 2899, 9), of(100, 2901, 10), of(1900, 100, 11), of(2900, 100, 12), of(1900, 2901, 13)}, 0, 0},
	} {
		v := with(t, 2020, c.l...)
		due(t, v, 2020, c.from, c.to)
		due(t, v, 2021, 0, 0)
	}
}

// P27.1: each fund by itself, and what is due beside that.
func TestRight(t *testing.T) {
	for _, c := range []struct {
		l    []api.Line
		want bool
	}{
		{[]api.Line{of(100, 5010, 5), of(100, 1010, -5)}, true},
		{[]api.Line{of(100, 5010, 5), of(100, 1010, -4)}, false},
		{[]api.Line{of(100, 5010, 5)}, false},
		{[]api.Line{of(100, 5010, -5)}, false},
		{[]api.Line{of(100, 5010, 5), of(200, 1010, -5)}, false},
		{[]api.Line{of(100, 5010, 5), of(200, 1010, -5), of(300, 5010, -5), of(300, 1010, 5)}, false},
		{[]api.Line{of(100, 5010, 5), of(100, 1010, -5), of(200, 1010, 1)}, false},
		{[]api.Line{of(100, 1010, 1), of(200, 5010, 5), of(200, 1010, -5)}, false},
		{[]api.Line{of(100, 5010, 5), of(100, 4010, 2), of(100, 1010, -3), of(100, 2010, -4)}, true},
		{[]api.Line{of(100, 1900, 5), of(100, 1010, -5)}, false},
		{[]api.Line{of(100, 2900, 5), of(100, 1010, -5)}, false},
		{[]api.Line{of(100, 1900, -5), of(100, 1010, 5)}, false},
		{[]api.Line{of(100, 2900, -5), of(100, 1010, 5)}, false},
		{[]api.Line{of(100, 1900, 5), of(100, 2900, -5)}, true},
		{[]api.Line{of(100, 1900, -5), of(100, 2900, 5)}, true},
		{[]api.Line{of(100, 1900, 5), of(100, 2900, 5), of(100, 1010, -10)}, false},
		{[]api.Line{of(100, 1900, 5), of(100, 1010, -5), of(200, 2900, -5), of(200, 1010, 5)}, true},
		{[]api.Line{of(100, 1900, 5), of(100, 1010, -5), of(200, 2900, -4), of(200, 1010, 4)}, false},
		{[]api.Line{of(100, 1900, 5), of(100, 1010, -5), of(200, 2900, -2), of(200, 1010, 2), of(300, 2900, -3), of(300, 1010, 3)}, true},
		{[]api.Line{of(100, 1900, 5), of(100, 1010, -5), of(200, 1900, -5), of(200, 1010, 5)}, true},
	} {
		v := with(t, 2020, c.l...)
		if got := Right(v, 2020); got != c.want {
			t.Errorf("Right of %v: %t", c.l, got)
		}
		right(t, v, 2019, true)
	}
}

// P27.1: sums are taken modulo 2^64.
func TestWrap(t *testing.T) {
	v := with(t, 2020, of(100, 1, math.MaxInt), of(100, 2, math.MaxInt), of(100, 3, 2), of(100, 4, math.MinInt), of(100, 5, math.MinInt))
	sums(t, v, 2020, api.Sum{Fund: 100})
	right(t, v, 2020, true)
	v = with(t, 2020, of(100, 1, math.MaxInt), of(100, 2, 3), of(200, 1, math.MinInt), of(300, 1, math.MinInt), of(300, 2, -1))
	sums(t, v, 2020, api.Sum{Fund: 100, Debits: math.MinInt + 2}, api.Sum{Fund: 200, Credits: math.MinInt}, api.Sum{Fund: 300, Credits: math.MinInt + 1})
	right(t, v, 2020, false)
	v = with(t, 2020, of(100, 1, most), of(100, 2, most), of(100, 3, most), of(200, 1, -most), of(200, 2, -most), of(200, 3, -most))
	sums(t, v, 2020, api.Sum{Fund: 100, Debits: -most}, api.Sum{Fund: 200, Credits: -most})
	right(t, v, 2020, false)
	v = with(t, 2020, of(100, 1900, math.MaxInt), of(200, 1900, 2), of(100, 2900, math.MinInt), of(200, 2900, -1))
	due(t, v, 2020, math.MinInt+1, math.MinInt+1)
	right(t, v, 2020, false)
	v = with(t, 2020, of(100, 1900, most), of(100, 1, -most), of(200, 1900, most), of(200, 1, -most), of(300, 2900, math.MinInt), of(300, 1, most), of(300, 2, most))
	due(t, v, 2020, math.MinInt, math.MinInt)
	right(t, v, 2020, true)
}

// linesAt are lines of some funds, of 0 together, made of a number.
func linesAt(i int) []api.Line {
	var l []api.Line
	sum := 0
	for place := range 1 + i%5 {
		n := (i*31+place*17)%23 - 11
		sum += n
		l = append(l, of(100+(i*7+place*5)%6*10, 1000+(i*13+place*3)%4*1000, n))
	}
	return append(l, of(100+i%6*10, 5010, -sum))
}

// P27.1, P27.2: many entries, some of them taken back, held against sums that are made of their lines.
func TestBehindEntries(t *testing.T) {
	v := open(t, 2020, 2021)
	balances := map[[3]int]int{}
	for i := range 400 {
		year, l := 2020+i%3%2, linesAt(i)
		put(t, v, year, l...)
		id := entry.Last(v)
		if i%4 == 0 {
			if _, err := entry.Back(v, id); err != api.OK {
				t.Fatalf("Back: %d", err)
			}
		} else {
			_, all, _ := entry.Get(v, id)
			for _, one := range all {
				balances[[3]int{year, one.Fund, one.Object}] += one.Amount
			}
		}
		right(t, v, 2020, true)
		right(t, v, 2021, true)
		if i%20 != 0 {
			continue
		}
		for year := 2019; year < 2023; year++ {
			same(t, v, year, balances)
		}
	}
	if from, to := Due(v, 2020); from == 0 || from != to {
		t.Errorf("Due: %d, %d", from, to)
	}
	if n := len(Sums(v, 2020)); n != 6 {
		t.Errorf("%d funds", n)
	}
}

// same holds a year's Sums and Due against balances.
func same(t *testing.T, v *view.View, year int, balances map[[3]int]int) {
	t.Helper()
	var want []api.Sum
	from, to := 0, 0
	for fund := range 1000 {
		sum, has := api.Sum{Fund: fund}, false
		for key, n := range balances {
			if key[0] != year || key[1] != fund || n == 0 {
				continue
			}
			has = true
			sum.Debits += max(n, 0)
			sum.Credits -= min(n, 0)
			if key[2] == 1900 {
				from += n
			}
			if key[2] == 2900 {
				to -= n
			}
		}
		if has {
			want = append(want, sum)
		}
	}
	sums(t, v, year, want...)
	due(t, v, year, from, to)
}

// P27.2: one line that is changed by itself, and it isn't right any more, in its year alone.
func TestNotRight(t *testing.T) {
	for _, l := range []api.Line{of(100, 5010, 1), of(100, 1010, -1), of(200, 1900, 1), of(300, 2900, -1), of(400, 3000, most)} {
		v := open(t, 2020, 2021)
		for _, year := range []int{2020, 2021} {
			put(t, v, year, of(100, 5010, 5), of(200, 1010, -8), of(300, 1010, 3))
		}
		bal.Add(v, 2020, l)
		right(t, v, 2020, false)
		right(t, v, 2021, true)
		l.Amount = -l.Amount
		bal.Add(v, 2020, l)
		right(t, v, 2020, true)
	}
}

// P27.1: what will be in the view counts, and nothing is changed by asking.
func TestOnDisk(t *testing.T) {
	d, _ := disk.New(200)
	k, err := kv.Format(d)
	if err != api.OK {
		t.Fatalf("Format: %d", err)
	}
	v := view.New(k)
	years.Open(v, 2020)
	put(t, v, 2020, of(100, 5010, 5), of(200, 1010, -5))
	nothing(t, view.New(k), 2020)
	if err := v.Commit(); err != api.OK {
		t.Fatalf("Commit: %d", err)
	}
	due(t, view.New(k), 2020, 5, 5)
	put(t, v, 2020, of(100, 5010, 7), of(200, 1010, -7))
	before, _ := v.Changes()
	sums(t, v, 2020, api.Sum{Fund: 100, Debits: 12, Credits: 12}, api.Sum{Fund: 200, Debits: 12, Credits: 12})
	due(t, v, 2020, 12, 12)
	right(t, v, 2020, true)
	after, dels := v.Changes()
	if len(dels) != 0 || !slices.EqualFunc(before, after, func(a, b api.Pair) bool { return bytes.Equal(a.Key, b.Key) && bytes.Equal(a.Value, b.Value) }) {
		t.Errorf("changes %v, %v, not %v", after, dels, before)
	}
	v.Abort()
	due(t, v, 2020, 5, 5)

	// Of a view whose store met an error nothing is told.
	bal.Add(v, 2020, of(100, 5010, 1))
	right(t, v, 2020, false)
	d.Arm(0)
	d.Write(0, make([]byte, api.Sector))
	nothing(t, v, 2020)
	if err := v.Err(); err != api.ErrDown {
		t.Errorf("Err: %d", err)
	}
}

// P27.1, R5: of a view that no call made there is nothing.
func TestNoView(t *testing.T) {
	for _, v := range []*view.View{nil, {}} {
		nothing(t, v, 2020, 0, -1, math.MaxInt)
	}
}

// R3: what is answered may be changed.
func TestNothingShared(t *testing.T) {
	v := open(t, 2020)
	put(t, v, 2020, of(100, 5010, 5), of(200, 1010, -5))
	for range 2 {
		got := Sums(v, 2020)
		clear(got[:cap(got)])
		sums(t, v, 2020, api.Sum{Fund: 100, Debits: 5, Credits: 5}, api.Sum{Fund: 200, Debits: 5, Credits: 5})
		due(t, v, 2020, 5, 5)
	}
}
