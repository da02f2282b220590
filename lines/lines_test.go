package lines

import (
	"encoding/binary"
	"math"
	"slices"
	"testing"

	"exchequer/api"
	"exchequer/chart"
	"exchequer/disk"
	"exchequer/kv"
	"exchequer/view"
)

// most is MaxAmount, written out.
const most = 9007199254740992

// fill makes the funds and objects that the tests speak of.
func fill(t *testing.T, v *view.View) {
	t.Helper()
	for _, fund := range []int{100, 200, 300, 999} {
		if err := chart.NewFund(v, fund, "x"); err != api.OK {
			t.Fatalf("NewFund %d: %d", fund, err)
		}
	}
	for _, object := range []int{1000, 2000, 5010, 5999} {
		if err := chart.NewObject(v, object); err != api.OK {
			t.Fatalf("NewObject %d: %d", object, err)
		}
	}
}

// filled is a view in memory with them.
func filled(t *testing.T) *view.View {
	t.Helper()
	v := view.New(nil)
	fill(t, v)
	return v
}

// of is a line of a fund, an object and an amount.
func of(fund, object, amount int) api.Line {
	return api.Line{Fund: fund, Object: object, Amount: amount}
}

// two are lines that any check lets through.
func two() []api.Line {
	return []api.Line{of(100, 5010, 5), of(100, 1010, -5)}
}

func check(t *testing.T, v *view.View, want api.Errno, l ...api.Line) {
	t.Helper()
	if got := Check(v, l); got != want {
		t.Errorf("Check %v: %d, not %d", l, got, want)
	}
}

// sumsTo looks for what each fund is together.
func sumsTo(t *testing.T, l []api.Line, want ...api.Line) {
	t.Helper()
	if got := Funds(l); !slices.Equal(got, want) {
		t.Errorf("Funds %v: %v, not %v", l, got, want)
	}
}

// orders are all orders of some lines.
func orders(l []api.Line) [][]api.Line {
	if len(l) == 0 {
		return [][]api.Line{nil}
	}
	var all [][]api.Line
	for i := range l {
		for _, rest := range orders(slices.Delete(slices.Clone(l), i, i+1)) {
			all = append(all, append([]api.Line{l[i]}, rest...))
		}
	}
	return all
}

// P23.1
func TestCheck(t *testing.T) {
	v := filled(t)
	for _, l := range [][]api.Line{
		two(),
		{of(100, 5010, 5), of(200, 1010, -5)},
		{of(999, 5999, -1), of(100, 1000, 1)},
		{of(100, 3000, 7), of(100, 3000, -7)},
		{of(100, 2000, 1), of(100, 2000, 2), of(300, 5010, -3)},
		{of(100, 5010, most), of(100, 1010, -most)},
		{of(300, 5010, most), of(300, 5010, most), of(200, 1010, most), of(100, 3000, -most), of(200, 1010, -most), of(999, 1010, -most)},
	} {
		check(t, v, api.OK, l...)
	}
}

// P23.1: 2 to MaxLines lines.
func TestCheckCount(t *testing.T) {
	v := filled(t)
	check(t, v, api.ErrArg)
	if err := Check(v, []api.Line{}); err != api.ErrArg {
		t.Errorf("Check of an empty list: %d", err)
	}
	check(t, v, api.ErrArg, of(100, 5010, 5))
	for n := 2; n <= 20; n++ {
		l := []api.Line{of(100, 1010, 1-n)}
		for len(l) < n {
			l = append(l, of(200, 5010, 1))
		}
		want := api.OK
		if n > 6 {
			want = api.ErrArg
		}
		check(t, v, want, l...)
	}
}

// P23.1: amounts are some, and no more than MaxAmount either way, wherever they stand.
func TestCheckAmount(t *testing.T) {
	v := filled(t)
	for _, n := range []int{0, most + 1, -most - 1, 2 * most, 1 << 62, -1 << 62, 1<<62 + 1, math.MaxInt, math.MinInt, math.MinInt + 1, math.MinInt + most, math.MaxInt - most + 1} {
		check(t, v, api.ErrArg, of(100, 5010, n), of(100, 1010, -n))
		check(t, v, api.ErrArg, of(100, 5010, 5), of(100, 5010, n), of(100, 1010, -5))
		check(t, v, api.ErrArg, of(100, 5010, 5), of(100, 5010, -5), of(100, 1010, n))
	}
	for i := range 54 {
		for _, n := range []int{1 << i, -1 << i} {
			check(t, v, api.OK, of(100, 5010, n), of(100, 1010, -n))
		}
	}
	check(t, v, api.OK, of(100, 5010, most-1), of(100, 1010, 1-most))
}

// P23.1: nodes are of other lines; what is due only the program writes.
func TestCheckLine(t *testing.T) {
	v := filled(t)
	for i := range 2 {
		for _, node := range []int{1, -1, 999, 1 << 32, math.MinInt, math.MaxInt} {
			l := two()
			l[i].Node = node
			check(t, v, api.ErrArg, l...)
		}
		for _, object := range []int{1900, 2900} {
			l := two()
			l[i].Object = object
			check(t, v, api.ErrArg, l...)
		}
	}
	check(t, v, api.ErrArg, of(100, 1900, 5), of(100, 2900, -5))
}

// P23.1: all funds and objects are there.
func TestCheckThere(t *testing.T) {
	v := filled(t)
	for i := range 2 {
		for _, fund := range []int{101, 998, 0, 99, 1000, -100, 100 << 32, 1<<32 + 100, math.MinInt, math.MaxInt} {
			l := two()
			l[i].Fund = fund
			check(t, v, api.ErrNone, l...)
		}
		for _, object := range []int{5011, 1001, 1011, 0, 999, 6000, -5010, 1<<32 + 5010, 1<<32 + 1010, 1<<32 + 1900, 1<<32 + 2900, math.MinInt, math.MaxInt} {
			l := two()
			l[i].Object = object
			check(t, v, api.ErrNone, l...)
		}
	}
	if err := chart.NewFund(v, 101, "y"); err != api.OK {
		t.Fatal(err)
	}
	if err := chart.NewObject(v, 5011); err != api.OK {
		t.Fatal(err)
	}
	check(t, v, api.OK, of(101, 5010, 5), of(100, 5011, -5))
	// A fund is no object, nor the other way round.
	check(t, v, api.ErrNone, of(5010, 100, 5), of(100, 1010, -5))
}

// P23.1: all amounts together are 0, whatever each fund has.
func TestCheckUnequal(t *testing.T) {
	v := filled(t)
	check(t, v, api.ErrUnequal, of(100, 5010, 5), of(100, 1010, -4))
	check(t, v, api.ErrUnequal, of(100, 5010, 5), of(100, 1010, 5))
	check(t, v, api.ErrUnequal, of(100, 5010, -5), of(200, 1010, -5))
	check(t, v, api.ErrUnequal, of(100, 5010, most), of(200, 1010, 1-most))
	check(t, v, api.ErrUnequal, of(100, 5010, 5), of(100, 1010, -5), of(100, 1010, 1))
	var l []api.Line
	for range 6 {
		l = append(l, of(100, 5010, most))
	}
	check(t, v, api.ErrUnequal, l...)
	for i := range l {
		l[i].Amount = -most
	}
	check(t, v, api.ErrUnequal, l...)
}

// P23.1, R1: ErrArg of any line is ahead of ErrNone of any, and that of ErrUnequal.
func TestCheckOrder(t *testing.T) {
	v := filled(t)
	none, arg := of(101, 5011, 5), of(100, 5010, 0)
	check(t, v, api.ErrArg, none, arg)
	check(t, v, api.ErrArg, arg, none)
	check(t, v, api.ErrArg, none)
	check(t, v, api.ErrArg, none, of(100, 1900, 1))
	check(t, v, api.ErrArg, none, of(100, 2900, 1))
	check(t, v, api.ErrArg, none, api.Line{Fund: 100, Object: 5010, Node: 1, Amount: -5})
	check(t, v, api.ErrArg, none, none, none, none, none, none, none)
	check(t, v, api.ErrArg, of(100, 5010, most+1), of(100, 5010, 1))
	check(t, v, api.ErrNone, none, none)
	check(t, v, api.ErrNone, none, of(100, 1010, -4))
	check(t, v, api.ErrNone, of(100, 1010, -4), none)
	check(t, v, api.ErrNone, of(100, 5010, 5), of(100, 5011, 4))
	check(t, v, api.ErrNone, of(100, 5010, 5), of(101, 5010, 4))
}

// P23.1: a check asks only, and what it is handed stays as it is.
func TestCheckChangesNothing(t *testing.T) {
	v := filled(t)
	before := len(v.Scan(nil))
	room := append(two(), of(1, 2, 3))
	for range 2 {
		check(t, v, api.OK, room[:2]...)
		check(t, v, api.ErrArg, of(100, 5010, 0), of(100, 1010, 0))
		check(t, v, api.ErrNone, of(101, 5010, 1), of(100, 5011, -1))
		check(t, v, api.ErrUnequal, of(100, 5010, 1), of(100, 1010, 1))
	}
	if !slices.Equal(room, append(two(), of(1, 2, 3))) {
		t.Errorf("the lines are %v now", room)
	}
	if after := len(v.Scan(nil)); after != before {
		t.Errorf("%d pairs were there, %d are", before, after)
	}
}

// P23.1: what stands in the view counts, whoever put it there.
func TestCheckOfOthers(t *testing.T) {
	v := view.New(nil)
	check(t, v, api.ErrNone, of(100, 1010, 5), of(100, 3000, -5))
	for _, tag := range []byte{'F', 'O'} {
		n := map[byte]uint32{'F': 100, 'O': 5010}[tag]
		if err := v.Put(binary.BigEndian.AppendUint32([]byte{tag}, n), nil); err != api.OK {
			t.Fatal(err)
		}
	}
	check(t, v, api.OK, two()...)
	v.Delete(binary.BigEndian.AppendUint32([]byte{'F'}, 100))
	check(t, v, api.ErrNone, two()...)
}

// P23.1: funds and objects of a store on a disk, and such as are not yet there for others.
func TestCheckOnDisk(t *testing.T) {
	d, _ := disk.New(81)
	k, err := kv.Format(d)
	if err != api.OK {
		t.Fatalf("Format: %d", err)
	}
	v := view.New(k)
	check(t, v, api.ErrNone, two()...)
	fill(t, v)
	check(t, v, api.OK, two()...)
	check(t, view.New(k), api.ErrNone, two()...)
	v.Abort()
	check(t, v, api.ErrNone, two()...)
	fill(t, v)
	if err := v.Commit(); err != api.OK {
		t.Fatalf("Commit: %d", err)
	}
	check(t, v, api.OK, two()...)
	check(t, view.New(k), api.OK, two()...)
	d.Arm(0)
	d.Write(0, make([]byte, api.Sector))
	check(t, v, api.ErrNone, two()...)
	check(t, v, api.ErrArg, of(100, 5010, 5))
}

// P23.1, R5: of a view that no call made no fund is told.
func TestCheckNoView(t *testing.T) {
	for _, v := range []*view.View{nil, {}} {
		check(t, v, api.ErrArg)
		check(t, v, api.ErrArg, of(100, 1010, 5))
		check(t, v, api.ErrArg, of(100, 1010, 0), of(100, 1010, 0))
		check(t, v, api.ErrNone, two()...)
		check(t, v, api.ErrNone, of(100, 1010, 5), of(100, 3000, -4))
	}
}

// P23.1
func TestFunds(t *testing.T) {
	sumsTo(t, nil)
	sumsTo(t, []api.Line{})
	sumsTo(t, two(), of(100, 0, 0))
	sumsTo(t, []api.Line{of(100, 5010, 7)}, of(100, 0, 7))
	sumsTo(t, []api.Line{of(300, 5010, 5), of(100, 1010, -3), of(300, 1010, 2), of(200, 2000, 4), of(100, 3000, 3)}, of(100, 0, 0), of(200, 0, 4), of(300, 0, 7))
	// Objects and nodes count for nothing, and any number is a fund here.
	sumsTo(t, []api.Line{{Fund: 2, Object: 1900, Node: 7, Amount: 1}, {Fund: 2, Object: 2900, Node: 8, Amount: 2}}, of(2, 0, 3))
	sumsTo(t, []api.Line{of(math.MaxInt, 1, 1), of(0, 1, 2), of(-5, 1, 3), of(math.MinInt, 1, 4), of(1<<32, 1, 5), of(-1, 1, 6), of(1<<32+100, 1, 7), of(100, 1, 8)},
		of(math.MinInt, 0, 4), of(-5, 0, 3), of(-1, 0, 6), of(0, 0, 2), of(100, 0, 8), of(1<<32, 0, 5), of(1<<32+100, 0, 7), of(math.MaxInt, 0, 1))
}

// P23.1, R7: sums go round at 2^64.
func TestFundsRound(t *testing.T) {
	sumsTo(t, []api.Line{of(1, 0, math.MaxInt), of(1, 0, 1)}, of(1, 0, math.MinInt))
	sumsTo(t, []api.Line{of(1, 0, math.MinInt), of(1, 0, math.MinInt)}, of(1, 0, 0))
	sumsTo(t, []api.Line{of(1, 0, math.MinInt), of(2, 0, 1), of(1, 0, -1)}, of(1, 0, math.MaxInt), of(2, 0, 1))
	sumsTo(t, []api.Line{of(1, 0, 1<<62), of(1, 0, 1<<62), of(1, 0, 1<<62), of(1, 0, 1<<62), of(1, 0, 3)}, of(1, 0, 3))
}

// P23.1, R4: very many funds, told the same each time; a list may be as long as it likes.
func TestManyFunds(t *testing.T) {
	var l, want []api.Line
	for i := range 5000 {
		fund := i * 7919 % 5000
		l = append(l, of(fund, i, 2*fund), of(4999-fund, i, 1))
		want = append(want, of(i, 0, 2*i+1))
	}
	for range 3 {
		sumsTo(t, l, want...)
	}
}

// P23.1: each fund for itself.
func TestEqual(t *testing.T) {
	for _, c := range []struct {
		l    []api.Line
		want bool
	}{
		{nil, true},
		{[]api.Line{}, true},
		{two(), true},
		{[]api.Line{of(100, 5010, 0)}, true},
		{[]api.Line{of(100, 5010, 1)}, false},
		{[]api.Line{of(100, 5010, -1)}, false},
		{[]api.Line{of(100, 5010, 5), of(200, 1010, -5)}, false},
		{[]api.Line{of(100, 5010, 5), of(200, 1010, -5), of(100, 2900, -5), of(200, 1900, 5)}, true},
		{[]api.Line{of(100, 5010, 5), of(200, 1010, -5), of(100, 1010, -5), of(200, 1010, 4)}, false},
		{[]api.Line{of(1, 1, 1), of(1, 1, -1), of(2, 1, 1)}, false},
		{[]api.Line{of(2, 1, 1), of(1, 1, 1), of(1, 1, -1)}, false},
		{[]api.Line{of(1, 0, math.MinInt), of(1, 0, math.MinInt)}, true},
		{[]api.Line{of(1, 0, math.MinInt)}, false},
		{[]api.Line{of(1, 0, math.MaxInt), of(1, 0, 1), of(1, 0, math.MinInt)}, true},
		{[]api.Line{of(1, 0, 1<<32), of(1, 0, 1<<32)}, false},
		{[]api.Line{of(-1, 0, 3), of(-1, 7, -3), of(1<<32-1, 0, 0)}, true},
		{[]api.Line{of(100, 0, 3), of(1<<32+100, 0, -3)}, false},
	} {
		if got := Equal(c.l); got != c.want {
			t.Errorf("Equal %v: %v", c.l, got)
		}
	}
}

// P23.2
func TestAnyOrder(t *testing.T) {
	l := []api.Line{of(300, 5010, 5), of(100, 1010, -3), of(300, 1010, math.MaxInt), of(200, 2000, 4), of(100, 3000, 3), of(-7, 1, 2)}
	want := Funds(l)
	if len(want) != 4 {
		t.Fatalf("%d funds", len(want))
	}
	for _, other := range orders(l) {
		sumsTo(t, other, want...)
		if Equal(other) {
			t.Errorf("Equal %v", other)
		}
	}
	for _, other := range orders([]api.Line{of(2, 1, 5), of(1, 1, 3), of(2, 1, -2), of(1, 1, -3), of(2, 1, -3)}) {
		sumsTo(t, other, of(1, 0, 0), of(2, 0, 0))
		if !Equal(other) {
			t.Errorf("not Equal %v", other)
		}
	}
}

// R3: what is handed in stays, its spare room too, and what is answered is new each time.
func TestNothingShared(t *testing.T) {
	room := []api.Line{of(200, 1, 2), of(100, 1, 3), of(200, 2, 4), of(9, 9, 9), of(9, 9, 9)}
	was := slices.Clone(room)
	got := Funds(room[:3])
	for i := range got {
		got[i] = of(1, 1, 1)
	}
	sumsTo(t, room[:3], of(100, 0, 3), of(200, 0, 6))
	Equal(room[:3])
	if !slices.Equal(room, was) {
		t.Errorf("the lines are %v now", room)
	}
}
