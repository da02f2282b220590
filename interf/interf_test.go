package interf

import (
	"math"
	"slices"
	"testing"

	"exchequer/api"
	"exchequer/lines"
)

// of is a line of a fund, an object and an amount.
func of(fund, object, amount int) api.Line {
	return api.Line{Fund: fund, Object: object, Amount: amount}
}

// balances looks for what balances lines, and that it stands behind them.
func balances(t *testing.T, l []api.Line, want ...api.Line) {
	t.Helper()
	if got := Balance(l); !slices.Equal(got, want) {
		t.Errorf("Balance %v: %v, not %v", l, got, want)
	}
	all := append(slices.Clone(l), want...)
	if got := All(l); !slices.Equal(got, all) {
		t.Errorf("All %v: %v, not %v", l, got, all)
	}
}

// P24.1, with the chapter's example and the document's first.
func TestBalance(t *testing.T) {
	balances(t, []api.Line{of(100, 5010, 5), of(200, 1010, -5)}, of(100, 2900, -5), of(200, 1900, 5))
	balances(t, []api.Line{of(200, 1010, -5), of(100, 5010, 5)}, of(100, 2900, -5), of(200, 1900, 5))
	balances(t, []api.Line{of(100, 5010, -1), of(200, 1010, 1)}, of(100, 1900, 1), of(200, 2900, -1))
	balances(t, []api.Line{of(300, 5010, 5), of(100, 1010, -9), of(300, 1010, 2), of(200, 3000, 2)}, of(100, 1900, 9), of(200, 2900, -2), of(300, 2900, -7))
	// Lines need not be 0 together.
	balances(t, []api.Line{of(100, 5010, 7)}, of(100, 2900, -7))
	balances(t, []api.Line{of(100, 5010, -7)}, of(100, 1900, 7))
	balances(t, []api.Line{of(2, 1, 3), of(1, 1, 4)}, of(1, 2900, -4), of(2, 2900, -3))
}

// P24.1: a fund that has debits as credits owes nothing.
func TestNothingOwed(t *testing.T) {
	balances(t, nil)
	balances(t, []api.Line{})
	balances(t, []api.Line{of(100, 5010, 0)})
	balances(t, []api.Line{of(100, 5010, 5), of(100, 1010, -5)})
	balances(t, []api.Line{of(100, 5010, 5), of(200, 5010, 6), of(100, 1010, -5), of(300, 1010, -6)}, of(200, 2900, -6), of(300, 1900, 6))
	balances(t, []api.Line{of(100, 5010, 5), of(200, 1010, -5), of(100, 2900, -5), of(200, 1900, 5)})
}

// P24.1: lines stay as they are, whatever stands in them, and any number is a fund here.
func TestAnyLines(t *testing.T) {
	balances(t, []api.Line{{Fund: -3, Object: 7, Node: 9, Amount: 5}, {Fund: math.MaxInt, Object: 1900, Node: -1, Amount: 2}, {Fund: math.MinInt, Amount: -1}},
		of(math.MinInt, 1900, 1), of(-3, 2900, -5), of(math.MaxInt, 2900, -2))
}

// P24.1, R7: amounts go round at 2^64, so that -2^63 is turned into itself.
func TestRound(t *testing.T) {
	balances(t, []api.Line{of(1, 0, math.MaxInt)}, of(1, 2900, -math.MaxInt))
	balances(t, []api.Line{of(1, 0, -math.MaxInt)}, of(1, 1900, math.MaxInt))
	balances(t, []api.Line{of(1, 0, math.MinInt)}, of(1, 1900, math.MinInt))
	balances(t, []api.Line{of(1, 0, math.MaxInt), of(1, 0, 1)}, of(1, 1900, math.MinInt))
	balances(t, []api.Line{of(1, 0, math.MinInt), of(1, 0, -1)}, of(1, 2900, -math.MaxInt))
	balances(t, []api.Line{of(1, 0, math.MinInt), of(1, 0, math.MinInt)})
}

// each calls with all lists of some lines that have few funds and few amounts.
func each(size int, call func([]api.Line)) {
	amounts := []int{-2, -1, 0, 1, 3, math.MinInt, math.MaxInt}
	count := 1
	for range size {
		count *= 3 * len(amounts)
	}
	for n := range count {
		var l []api.Line
		for range size {
			l = append(l, of(100+n%3, 5010, amounts[n/3%len(amounts)]))
			n /= 3 * len(amounts)
		}
		call(l)
	}
}

// P24.2
func TestEqual(t *testing.T) {
	for size := range 4 {
		each(size, func(l []api.Line) {
			if !lines.Equal(All(l)) {
				t.Fatalf("All %v is not Equal", l)
			}
			sum, due := 0, 0
			for _, one := range l {
				sum += one.Amount
			}
			for _, one := range All(l)[len(l):] {
				if one.Object != 1900 && one.Object != 2900 {
					t.Fatalf("All %v has %v behind", l, one)
				}
				due += one.Amount
			}
			if due != -sum {
				t.Fatalf("Balance %v: %d together", l, due)
			}
			if again := Balance(All(l)); len(again) != 0 {
				t.Fatalf("Balance of All %v: %v", l, again)
			}
		})
	}
}

// R4
func TestManyFunds(t *testing.T) {
	var l, want []api.Line
	for i := range 3000 {
		fund := i * 7919 % 3000
		l = append(l, of(fund, 5010, 1500-fund))
		if i < 1500 {
			want = append(want, of(i, 2900, i-1500))
		}
		if i > 1500 {
			want = append(want, of(i, 1900, i-1500))
		}
	}
	for range 3 {
		balances(t, l, want...)
	}
}

// R3: what is handed in stays, its spare room too, and what is answered is new.
func TestNothingShared(t *testing.T) {
	room := []api.Line{of(200, 1, 2), of(100, 1, 3), of(9, 9, 9), of(9, 9, 9), of(9, 9, 9)}
	was := slices.Clone(room)
	all, more := All(room[:2]), Balance(room[:2])
	if !slices.Equal(room, was) {
		t.Errorf("the lines are %v now", room)
	}
	for i := range more {
		more[i] = of(1, 1, 1)
	}
	for i := range all {
		all[i] = of(2, 2, 2)
	}
	same := append(all, of(3, 3, 3))
	if !slices.Equal(room, was) {
		t.Errorf("the lines are %v now, with %v changed", room, same)
	}
	balances(t, room[:2], of(100, 2900, -3), of(200, 2900, -2))
	level := []api.Line{of(100, 1, 2), of(100, 1, -2)}
	All(level)[0] = of(1, 1, 1)
	balances(t, level)
	if level[0] != of(100, 1, 2) {
		t.Errorf("the lines are %v now", level)
	}
}
