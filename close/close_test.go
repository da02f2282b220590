package close

import (
	"bytes"
	"math"
	"slices"
	"testing"

	"exchequer/api"
	"exchequer/bal"
	"exchequer/chart"
	"exchequer/disk"
	"exchequer/docs"
	"exchequer/enc"
	"exchequer/entry"
	"exchequer/exp"
	"exchequer/field"
	"exchequer/keys"
	"exchequer/kv"
	"exchequer/lines"
	"exchequer/pre"
	"exchequer/recs"
	"exchequer/shift"
	"exchequer/tree"
	"exchequer/trial"
	"exchequer/view"
	"exchequer/years"
)

const (
	top = 1<<32 - 1
	// mostLines, bound, total, cash, dueFrom, dueTo and net are MaxLines, 2^60, MaxTotal, Cash, DueFrom, DueTo and Equity, written out.
	mostLines = 6
	bound     = 1152921504606846976
	total     = 4611686018427387904
	cash      = 1010
	dueFrom   = 1900
	dueTo     = 2900
	net       = 3000
)

func right(t *testing.T, err api.Errno) {
	t.Helper()
	if err != api.OK {
		t.Fatalf("error %d", err)
	}
}

// with is a view in which 2019 is closed, 2020 and 2021 are open, and these nodes stand.
func with(t *testing.T, l ...api.Node) *view.View {
	t.Helper()
	v := view.New(nil)
	begin(t, v)
	stand(t, v, l...)
	return v
}

func begin(t *testing.T, v *view.View) {
	t.Helper()
	for year := 2019; year <= 2021; year++ {
		right(t, years.Open(v, year))
	}
	right(t, years.Shut(v, 2019))
}

func stand(t *testing.T, v *view.View, l ...api.Node) {
	t.Helper()
	for _, n := range l {
		right(t, tree.Put(v, n))
	}
}

// node is one of 2020 with a limit; of the other numbers each is known from the others.
func node(id, parent, limit int, absolute bool) api.Node {
	return api.Node{Year: 2020, ID: id, Parent: parent, Fund: 100 + id, Object: 5000 + id, Absolute: absolute, Limit: limit}
}

// used is a node of which something is: pre-encumbered, encumbered and spent.
func used(n api.Node, pre, enc, exp int) api.Node {
	n.Pre, n.Enc, n.Exp = pre, enc, exp
	return n
}

// ended is a node of a year that has ended.
func ended(n api.Node, lapsed, carried int) api.Node {
	n.Pre, n.Enc, n.Lapsed, n.Carried = 0, 0, lapsed, carried
	return n
}

// heir is a node of 2021 that has nothing but what was encumbered of one of 2020.
func heir(n api.Node, enc int) api.Node {
	return api.Node{Year: 2021, ID: n.ID, Parent: n.Parent, Fund: n.Fund, Object: n.Object, Absolute: n.Absolute, Limit: enc, Enc: enc}
}

// in is a node of another year.
func in(year int, n api.Node) api.Node {
	n.Year = year
	return n
}

// balance lets a balance stand, whatever it is.
func balance(t *testing.T, v *view.View, year, fund, object, n int) {
	t.Helper()
	right(t, v.Put(keys.Key('B', year, fund, object), field.Pack(n)))
}

// count lets an ID be the last one that was given out: of entries (1), or of documents (2).
func count(t *testing.T, v *view.View, which, last int) {
	t.Helper()
	right(t, v.Put(keys.Key('S', which), field.Pack(last)))
}

// file makes a document, whatever its lines are; its ID is answered.
func file(t *testing.T, v *view.View, kind, year, from int, l ...api.DocLine) int {
	t.Helper()
	id, err := docs.Put(v, api.Doc{Kind: kind, Year: year, From: from}, l)
	right(t, err)
	return id
}

// line is one of a document.
func line(node, original, liquidated, cancelled int) api.DocLine {
	return api.DocLine{Node: node, Original: original, Liquidated: liquidated, Cancelled: cancelled}
}

// paper are the pairs of a document, with its lines and the counter that gave out its ID.
func paper(kind, year, from, id int, l ...api.DocLine) []api.Pair {
	all := []api.Pair{
		{Key: keys.Key('S', 2), Value: field.Pack(id)},
		recs.Doc(api.Doc{ID: id, Kind: kind, Year: year, From: from, Lines: len(l)}),
	}
	for at, x := range l {
		all = append(all, recs.DocLine(id, at, x))
	}
	return all
}

// set are the pairs of some nodes.
func set(l ...api.Node) []api.Pair {
	var all []api.Pair
	for _, n := range l {
		all = append(all, recs.Node(n))
	}
	return all
}

func samePairs(a, b []api.Pair) bool {
	return slices.EqualFunc(a, b, func(a, b api.Pair) bool {
		return bytes.Equal(a.Key, b.Key) && bytes.Equal(a.Value, b.Value)
	})
}

// over are pairs with these others put over them.
func over(was []api.Pair, puts ...api.Pair) []api.Pair {
	all := slices.Clone(was)
	for _, p := range puts {
		at, there := slices.BinarySearchFunc(all, p, func(a, b api.Pair) int { return bytes.Compare(a.Key, b.Key) })
		if there {
			all[at] = p
			continue
		}
		all = slices.Insert(all, at, p)
	}
	return all
}

// has looks that a view is as it was, but for these pairs.
func has(t *testing.T, v *view.View, was []api.Pair, puts ...api.Pair) {
	t.Helper()
	got, want := v.Scan(nil), over(was, puts...)
	if samePairs(got, want) {
		return
	}
	for _, p := range got {
		if !slices.ContainsFunc(want, func(q api.Pair) bool { return samePairs([]api.Pair{p}, []api.Pair{q}) }) {
			t.Errorf("there stands %v", p)
		}
	}
	for _, p := range want {
		if !slices.ContainsFunc(got, func(q api.Pair) bool { return samePairs([]api.Pair{p}, []api.Pair{q}) }) {
			t.Errorf("there does not stand %v", p)
		}
	}
}

// carries looks that Carry is done, and that just these pairs change.
func carries(t *testing.T, v *view.View, year, next int, puts ...api.Pair) {
	t.Helper()
	was := v.Scan(nil)
	if err := Carry(v, year, next); err != api.OK {
		t.Errorf("Carry %d %d: %d", year, next, err)
	}
	has(t, v, was, puts...)
}

// noCarry looks that Carry is refused, and changes nothing.
func noCarry(t *testing.T, v *view.View, year, next int, want api.Errno) {
	t.Helper()
	was := v.Scan(nil)
	if err := Carry(v, year, next); err != want {
		t.Errorf("Carry %d %d: %d, not %d", year, next, err, want)
	}
	has(t, v, was)
}

// noClose looks that Close is refused.
func noClose(t *testing.T, v *view.View, year, next int, want api.Errno) {
	t.Helper()
	if err := Close(v, year, next); err != want {
		t.Errorf("Close %d %d: %d, not %d", year, next, err, want)
	}
}

// result looks what Result answers.
func result(t *testing.T, v *view.View, year, fund int, want ...api.Line) {
	t.Helper()
	if got := Result(v, year, fund); !slices.Equal(got, want) {
		t.Errorf("Result %d %d: %v, not %v", year, fund, got, want)
	}
}

// stands looks what Stand answers.
func stands(t *testing.T, v *view.View, year, fund int, want ...api.Line) {
	t.Helper()
	if got := Stand(v, year, fund); !slices.Equal(got, want) {
		t.Errorf("Stand %d %d: %v, not %v", year, fund, got, want)
	}
}

// of are lines of a fund: objects with amounts.
func of(fund int, nums ...int) []api.Line {
	var l []api.Line
	for at := 0; at < len(nums); at += 2 {
		l = append(l, api.Line{Fund: fund, Object: nums[at], Amount: nums[at+1]})
	}
	return l
}

// P35.1: revenues and expenditures turned, with equity behind; assets, liabilities and equity as they are.
func TestLines(t *testing.T) {
	v := with(t)
	result(t, v, 2020, 100)
	stands(t, v, 2020, 100)
	balance(t, v, 2020, 100, 5010, 30)
	result(t, v, 2020, 100, of(100, 5010, -30, net, 30)...)
	stands(t, v, 2020, 100)
	balance(t, v, 2020, 100, 4010, -50)
	result(t, v, 2020, 100, of(100, 4010, 50, 5010, -30, net, -20)...)
	balance(t, v, 2020, 100, cash, 20)
	balance(t, v, 2020, 200, cash, 7)
	balance(t, v, 2020, 300, 4999, -8)
	stands(t, v, 2020, 100, of(100, cash, 20)...)
	stands(t, v, 2020, 200, of(200, cash, 7)...)
	result(t, v, 2020, 200)
	stands(t, v, 2020, 300)
	result(t, v, 2020, 300, of(300, 4999, 8, net, -8)...)
	for _, fund := range []int{0, 101, -100, 1<<32 + 100, math.MinInt, math.MaxInt} {
		result(t, v, 2020, fund)
		stands(t, v, 2020, fund)
	}
}

// P35.1: the edges of the classes, in the order of the objects, however they came about.
func TestLinesClasses(t *testing.T) {
	v := with(t)
	objects := []int{0, 1, 4, 5, 999, 1000, cash, dueFrom, 1999, 2000, dueTo, 2999, net, 3999, 4000, 4999, 5000, 5999, 6000, 9999, 1 << 20, top}
	for i, object := range slices.Backward(objects) {
		balance(t, v, 2020, 100, object, 1<<i)
	}
	result(t, v, 2020, 100, of(100, 4000, -1<<14, 4999, -1<<15, 5000, -1<<16, 5999, -1<<17, net, 15<<14)...)
	stands(t, v, 2020, 100, of(100, 1000, 1<<5, cash, 1<<6, dueFrom, 1<<7, 1999, 1<<8, 2000, 1<<9, dueTo, 1<<10, 2999, 1<<11, net, 1<<12, 3999, 1<<13)...)
}

// P35.1: amounts whose sum is 0, or goes beyond 64 bits, and those that are 0.
func TestLinesAmounts(t *testing.T) {
	v := with(t)
	balance(t, v, 2020, 100, 4010, -9)
	balance(t, v, 2020, 100, 5010, 9)
	result(t, v, 2020, 100, of(100, 4010, 9, 5010, -9, net, 0)...)
	balance(t, v, 2020, 100, 5010, 0)
	balance(t, v, 2020, 100, 4010, 0)
	balance(t, v, 2020, 100, cash, 0)
	result(t, v, 2020, 100, of(100, 4010, 0, 5010, 0, net, 0)...)
	stands(t, v, 2020, 100, of(100, cash, 0)...)
	balance(t, v, 2020, 100, 4010, math.MinInt)
	balance(t, v, 2020, 100, 5010, math.MaxInt)
	result(t, v, 2020, 100, of(100, 4010, math.MinInt, 5010, -math.MaxInt, net, -1)...)
	balance(t, v, 2020, 100, 4010, math.MaxInt)
	result(t, v, 2020, 100, of(100, 4010, -math.MaxInt, 5010, -math.MaxInt, net, -2)...)
	balance(t, v, 2020, 100, cash, math.MinInt)
	balance(t, v, 2020, 100, net, math.MaxInt)
	stands(t, v, 2020, 100, of(100, cash, math.MinInt, net, math.MaxInt)...)
}

// P35.1: the balances of that year, whether it is open or not; the fund and the object need not be there.
func TestLinesYears(t *testing.T) {
	v := with(t)
	for at, year := range []int{0, 2018, 2019, 2020, 2021, top} {
		for _, fund := range []int{0, 100, top} {
			balance(t, v, year, fund, 4010, 10+at)
			balance(t, v, year, fund, cash, 20+at)
			result(t, v, year, fund, of(fund, 4010, -10-at, net, 10+at)...)
			stands(t, v, year, fund, of(fund, cash, 20+at)...)
		}
	}
	for _, year := range []int{-1, 1, 2022, -2020, 1 << 32, 1<<32 + 2020, math.MinInt, math.MaxInt} {
		result(t, v, year, 100)
		stands(t, v, year, 100)
	}
	// A fund's number is the whole of it, not what would stand in a key.
	for _, fund := range []int{-1, 1 << 32, 1<<32 + 100, math.MinInt, math.MaxInt} {
		result(t, v, 2020, fund)
		stands(t, v, 2020, fund)
	}
	// What is no balance is none.
	right(t, v.Put(keys.Key('B', 2020, 100, 4020), field.Pack(1, 2)))
	right(t, v.Put(keys.Key('B', 2020, 100, 1020), nil))
	right(t, v.Put(keys.Key('B', 2020, 100), field.Pack(5)))
	result(t, v, 2020, 100, of(100, 4010, -13, net, 13)...)
	stands(t, v, 2020, 100, of(100, cash, 23)...)
}

// P35.1: the lines close a fund, and open it; neither changes the view.
func TestLinesChangeNothing(t *testing.T) {
	v := with(t)
	balance(t, v, 2020, 100, 4010, -50)
	balance(t, v, 2020, 100, cash, 50)
	was := v.Scan(nil)
	for range 3 {
		result(t, v, 2020, 100, of(100, 4010, 50, net, -50)...)
		stands(t, v, 2020, 100, of(100, cash, 50)...)
	}
	has(t, v, was)
}

// P35.2: what is encumbered goes on, of nodes that are not in the next year, and the rest lapses.
func TestCarry(t *testing.T) {
	a, b, c := used(node(1, 0, 100, true), 11, 12, 13), used(node(2, 1, 60, false), 5, 0, 6), used(node(3, 2, 40, false), 0, 7, 0)
	carries(t, with(t), 2020, 2021)
	carries(t, with(t, a, b, c), 2020, 2021, set(
		ended(a, 75, 12), ended(b, 54, 0), ended(c, 33, 7), heir(a, 12), heir(c, 7))...)
	// What had lapsed, or was carried, before counts for nothing; another year's node stays.
	a.Lapsed, a.Carried = 77, 88
	v := with(t, a, in(2019, a), in(2022, a))
	carries(t, v, 2020, 2021, set(ended(a, 75, 12), heir(a, 12))...)
	// Again: now nothing is encumbered any more.
	carries(t, v, 2020, 2021, set(ended(a, 87, 0))...)
}

// P35.2: figures that no command makes: one is carried that is above 0 alone, and the rest is told of any.
func TestCarryFigures(t *testing.T) {
	for _, c := range []struct{ limit, pre, enc, exp, lapsed int }{
		{0, 0, 0, 0, 0}, {5, 9, 0, 0, 5}, {5, 0, 0, 9, -4}, {5, 0, -1, 0, 6}, {5, 0, -bound, 0, bound + 5}, {-5, 1, 1, 1, -7}, {0, 0, math.MinInt, 0, math.MinInt}, {math.MinInt, math.MinInt, 0, 1, math.MaxInt}, {10, math.MaxInt, 1, -4, 13},
		{bound, 0, bound, 0, 0}, {bound, 0, bound + 1, 0, -1}, {0, 0, math.MaxInt, 0, -math.MaxInt}, {math.MinInt, 0, math.MaxInt, 0, 1},
	} {
		n := used(node(7, 0, c.limit, true), c.pre, c.enc, c.exp)
		puts := set(ended(n, c.lapsed, c.enc))
		if c.enc > 0 {
			puts = append(puts, recs.Node(heir(n, c.enc)))
		}
		carries(t, with(t, n), 2020, 2021, puts...)
	}
	// Any parent, fund, object and ID.
	for _, k := range []int{0, -1, top, math.MinInt, math.MaxInt} {
		n := api.Node{Year: 2020, ID: 3, Parent: k, Fund: k, Object: k, Limit: 9, Enc: 4}
		carries(t, with(t, n), 2020, 2021, set(ended(n, 5, 4), heir(n, 4))...)
		carries(t, with(t, n, heir(n, 1)), 2020, 2021, set(ended(n, 5, 4), heir(n, 5))...)
	}
	for _, id := range []int{0, 1000, top} {
		n := node(id, 0, 9, true)
		n.Enc = 4
		carries(t, with(t, n), 2020, 2021, set(ended(n, 5, 4), heir(n, 4))...)
	}
}

// P35.2: a node that the next year has gets more limit, and more encumbered, and nothing else.
func TestCarryThere(t *testing.T) {
	n := used(node(1, 4, 100, true), 11, 12, 13)
	there := api.Node{Year: 2021, ID: 1, Parent: 4, Fund: 101, Object: 5001, Absolute: true, Limit: 50, Pre: 3, Enc: 4, Exp: 5, Lapsed: 6, Carried: 7}
	after := there
	after.Limit, after.Enc = 62, 16
	other := node(2, 0, 10, true)
	carries(t, with(t, n, there, in(2021, other)), 2020, 2021, set(ended(n, 75, 12), after)...)
	// One of which nothing is encumbered stays, and may be another one.
	for _, enc := range []int{0, -5} {
		n.Enc = enc
		carries(t, with(t, n, in(2021, other), api.Node{Year: 2021, ID: 1}), 2020, 2021, set(ended(n, 87-enc, enc))...)
	}
}

// P35.2: one that is in another place of the next year's budget is refused, ahead of what its numbers are.
func TestCarryState(t *testing.T) {
	n := used(node(1, 4, 100, true), 0, 12, 0)
	for _, change := range []func(*api.Node){
		func(n *api.Node) { n.Parent = 0 },
		func(n *api.Node) { n.Parent += 1 << 32 },
		func(n *api.Node) { n.Fund++ },
		func(n *api.Node) { n.Object-- },
		func(n *api.Node) { n.Absolute = false },
		func(n *api.Node) { *n = api.Node{Year: 2021, ID: 1} },
	} {
		for _, limit := range []int{0, 50, bound, math.MaxInt} {
			there := heir(n, 0)
			there.Limit = limit
			v := with(t, n, there)
			carries(t, v, 2021, 2022, set(ended(there, limit, 0))...)
			stand(t, v, there)
			change(&there)
			stand(t, v, there)
			noCarry(t, v, 2020, 2021, api.ErrState)
		}
	}
	n.Absolute = false
	there := heir(n, 0)
	there.Absolute = true
	noCarry(t, with(t, n, there), 2020, 2021, api.ErrState)
	n.Enc = math.MaxInt
	noCarry(t, with(t, n, there), 2020, 2021, api.ErrState)
}

// P35.2: the edges of what a node of the next year may have.
func TestCarryRange(t *testing.T) {
	for _, c := range []struct {
		enc, limit, has int
		want            api.Errno
	}{
		{1, bound - 1, 0, api.OK}, {1, bound, 0, api.ErrRange}, {1, 0, bound - 1, api.OK}, {1, 0, bound, api.ErrRange},
		{bound, 0, 0, api.OK}, {bound + 1, 0, 0, api.ErrRange}, {bound, 1, 0, api.ErrRange}, {bound, 0, 1, api.ErrRange}, {bound + 1, -1, -1, api.ErrRange}, {bound, -1, -1, api.OK},
		{5, bound - 5, bound - 5, api.OK}, {5, bound - 4, bound - 5, api.ErrRange}, {5, bound - 5, bound - 4, api.ErrRange}, {math.MaxInt, 0, 0, api.ErrRange}, {math.MaxInt, math.MinInt, math.MinInt, api.ErrRange}, {5, math.MinInt, math.MinInt, api.OK},
		// Beyond 64 bits it is a sum modulo 2^64.
		{1, math.MaxInt, 0, api.OK}, {1, 0, math.MaxInt, api.OK}, {1, math.MaxInt - 1, 0, api.ErrRange},
	} {
		n := used(node(1, 4, 100, true), 0, c.enc, 0)
		there := heir(n, 0)
		there.Limit, there.Enc = c.limit, c.has
		v := with(t, n, there)
		if c.want != api.OK {
			noCarry(t, v, 2020, 2021, c.want)
			continue
		}
		there.Limit += c.enc
		there.Enc += c.enc
		carries(t, v, 2020, 2021, set(ended(n, 100-c.enc, c.enc), there)...)
	}
}

// P35.2: node by node, rising: the first error is told, and none of them is changed.
func TestCarryFirst(t *testing.T) {
	a, b, c := used(node(1, 0, 100, true), 0, 10, 0), used(node(2, 0, 100, true), 0, 10, 0), used(node(300, 0, 100, true), 0, 10, 0)
	full := func(n api.Node) api.Node {
		n = heir(n, 0)
		n.Limit = bound
		return n
	}
	moved := func(n api.Node) api.Node {
		n = heir(n, 0)
		n.Parent = 9
		return n
	}
	for _, o := range []struct {
		there []api.Node
		want  api.Errno
	}{
		{[]api.Node{full(b), moved(c)}, api.ErrRange}, {[]api.Node{moved(b), full(c)}, api.ErrState}, {[]api.Node{full(c)}, api.ErrRange}, {[]api.Node{moved(a), full(c)}, api.ErrState}, {[]api.Node{full(a), moved(b), moved(c)}, api.ErrRange}, {[]api.Node{moved(c)}, api.ErrState},
	} {
		v := with(t, c, b, a)
		stand(t, v, o.there...)
		file(t, v, api.DocPre, 2020, 0, line(1, 5, 0, 0))
		file(t, v, api.DocEnc, 2020, 0, line(1, 10, 0, 0))
		noCarry(t, v, 2020, 2021, o.want)
		// Also ahead of what is wrong with the documents.
		count(t, v, 2, top)
		noCarry(t, v, 2020, 2021, o.want)
	}
}

// P35.2: years need not be there, nor be one behind the other; of one that cannot stand in a key there are no nodes.
func TestCarryYears(t *testing.T) {
	n := used(node(1, 4, 100, true), 2, 12, 3)
	carries(t, with(t, n), 2020, 2019, set(ended(n, 85, 12), in(2019, heir(n, 12)))...)
	carries(t, with(t, n), 2020, 0, set(ended(n, 85, 12), in(0, heir(n, 12)))...)
	carries(t, with(t, n), 2020, top, set(ended(n, 85, 12), in(top, heir(n, 12)))...)
	old := in(2019, n)
	carries(t, with(t, old), 2019, 2050, set(ended(old, 85, 12), in(2050, heir(n, 12)))...)
	for _, year := range []int{2021, -2020, 1<<32 + 2020, math.MinInt, math.MaxInt} {
		carries(t, with(t, n), year, 2021)
	}
	// If both years are one, the old nodes stand at last, but what is beyond the edge is refused all the same.
	carries(t, with(t, n), 2020, 2020, set(ended(n, 85, 12))...)
	n.Limit = bound - 12
	carries(t, with(t, n), 2020, 2020, set(ended(n, bound-27, 12))...)
	n.Limit++
	noCarry(t, with(t, n), 2020, 2020, api.ErrRange)
	n.Limit, n.Enc = 0, bound/2
	carries(t, with(t, n), 2020, 2020, set(ended(n, -3-bound/2, bound/2))...)
	n.Limit, n.Enc = 0, bound/2+1
	noCarry(t, with(t, n), 2020, 2020, api.ErrRange)
	// So they do where the next year stands as this one.
	first := in(0, used(node(1, 4, 100, true), 2, 12, 3))
	carries(t, with(t, first), 0, -1, set(ended(first, 85, 12))...)
	last := in(top, first)
	carries(t, with(t, last), top, math.MaxInt, set(ended(last, 85, 12))...)
}

// P35.2: what was pre-encumbered is cancelled, and goes on nowhere.
func TestCarryPre(t *testing.T) {
	v := with(t)
	file(t, v, api.DocPre, 2020, 0, line(1, 10, 0, 0))
	file(t, v, api.DocPre, 2020, 0, line(2, 10, 3, 4), line(3, 10, 10, 0), line(4, 10, 0, 10), line(5, 10, 0, 0), line(6, 0, 0, 0), line(7, 9, 8, 0))
	file(t, v, api.DocPre, 2021, 0, line(1, 10, 0, 0))
	file(t, v, api.DocPre, 2019, 0, line(1, 10, 0, 0))
	file(t, v, api.DocPre, 2020, 0, line(1, 5, 9, 0), line(1, 5, -9, 1), line(1, math.MinInt, 0, 1))
	carries(t, v, 2020, 2021,
		recs.DocLine(1, 0, line(1, 10, 0, 10)),
		recs.DocLine(2, 0, line(2, 10, 3, 7)), recs.DocLine(2, 3, line(5, 10, 0, 10)), recs.DocLine(2, 5, line(7, 9, 8, 1)),
		recs.DocLine(5, 0, line(1, 5, 9, -4)), recs.DocLine(5, 1, line(1, 5, -9, 14)), recs.DocLine(5, 2, line(1, math.MinInt, 0, math.MinInt)))
	carries(t, v, 2020, 2021)
}

// P35.2: what was encumbered is cancelled, and is so in the next year, line by line.
func TestCarryEnc(t *testing.T) {
	v := with(t)
	file(t, v, api.DocEnc, 2020, 0, line(1, 10, 0, 0))
	file(t, v, api.DocEnc, 2020, 1, line(2, 10, 3, 4), line(3, 10, 10, 0), line(4, 10, 0, 10), line(5, 10, 0, 0), line(6, 0, 0, 0), line(7, 9, 8, 0))
	// One of which nothing is open is not made again.
	file(t, v, api.DocEnc, 2020, 0, line(2, 10, 6, 4), line(3, 0, 0, 0))
	file(t, v, api.DocEnc, 2021, 0, line(1, 10, 0, 0))
	file(t, v, api.DocEnc, 2019, 0, line(1, 10, 0, 0))
	file(t, v, api.DocEnc, 2020, 0, line(8, 7, 0, 0))
	puts := slices.Concat(
		[]api.Pair{recs.DocLine(1, 0, line(1, 10, 0, 10)), recs.DocLine(2, 0, line(2, 10, 3, 7)), recs.DocLine(2, 3, line(5, 10, 0, 10)), recs.DocLine(2, 5, line(7, 9, 8, 1)), recs.DocLine(6, 0, line(8, 7, 0, 7))},
		paper(api.DocEnc, 2021, 1, 7, line(1, 10, 0, 0)),
		paper(api.DocEnc, 2021, 2, 8, line(2, 3, 0, 0), line(5, 10, 0, 0), line(7, 1, 0, 0)),
		paper(api.DocEnc, 2021, 6, 9, line(8, 7, 0, 0)))
	carries(t, v, 2020, 2021, puts...)
	carries(t, v, 2020, 2021)
}

// P35.2: lines that no command makes: one that has more than it was is open in no other year, but ends as the others.
func TestCarryEncLines(t *testing.T) {
	v := with(t)
	file(t, v, api.DocEnc, 2020, 0, line(1, 5, 9, 0), line(-1, 5, -9, 1), line(1, 5, 6, 0))
	file(t, v, api.DocEnc, 2020, 0, line(1, 5, 9, 0))
	file(t, v, api.DocEnc, 2020, 0, line(math.MinInt, 0, 0, math.MinInt), line(math.MaxInt, math.MaxInt, 0, 0), line(3, 0, 1, -2))
	puts := slices.Concat(
		[]api.Pair{recs.DocLine(1, 0, line(1, 5, 9, -4)), recs.DocLine(1, 1, line(-1, 5, -9, 14)), recs.DocLine(1, 2, line(1, 5, 6, -1))},
		[]api.Pair{recs.DocLine(2, 0, line(1, 5, 9, -4))},
		[]api.Pair{recs.DocLine(3, 0, line(math.MinInt, 0, 0, 0)), recs.DocLine(3, 1, line(math.MaxInt, math.MaxInt, 0, math.MaxInt)), recs.DocLine(3, 2, line(3, 0, 1, -1))},
		paper(api.DocEnc, 2021, 1, 4, line(-1, 13, 0, 0)),
		paper(api.DocEnc, 2021, 3, 5, line(math.MaxInt, math.MaxInt, 0, 0), line(3, 1, 0, 0)))
	carries(t, v, 2020, 2021, puts...)
}

// P35.2: documents of other kinds stay, and those that are not there as a whole.
func TestCarryOthers(t *testing.T) {
	v := with(t)
	for _, kind := range []int{api.DocExp, 0, 4, -1, math.MinInt, math.MaxInt} {
		file(t, v, kind, 2020, 0, line(1, 10, 0, 0))
	}
	for _, kind := range []int{api.DocPre, api.DocEnc} {
		id := file(t, v, kind, 2020, 0, line(1, 10, 0, 0), line(1, 10, 0, 0))
		v.Delete(recs.DocLine(id, 1, api.DocLine{}).Key)
		for _, lines := range []int{0, mostLines + 1, -1} {
			id := file(t, v, kind, 2020, 0, line(1, 10, 0, 0))
			right(t, v.Put(recs.Doc(api.Doc{ID: id}).Key, field.Pack(kind, 2020, 0, lines)))
		}
	}
	last := docs.Last(v)
	carries(t, v, 2020, 2021)
	// Those around them end.
	file(t, v, api.DocEnc, 2020, 0, line(1, 10, 4, 0))
	carries(t, v, 2020, 2021, append(paper(api.DocEnc, 2021, last+1, last+2, line(1, 6, 0, 0)), recs.DocLine(last+1, 0, line(1, 10, 4, 6)))...)
}

// P35.2: any year will do; what is made is of the next one, and is not ended itself even if that is the same.
func TestCarryDocYears(t *testing.T) {
	for _, year := range []int{2020, 0, -1, 1 << 40, math.MinInt, math.MaxInt} {
		for _, next := range []int{2021, 2020, 0, -1, 1 << 40, math.MinInt, math.MaxInt} {
			v := with(t)
			file(t, v, api.DocPre, year, 0, line(1, 10, 3, 0))
			file(t, v, api.DocEnc, year, 1, line(1, 10, 4, 0))
			file(t, v, api.DocEnc, 2018, 1, line(1, 10, 4, 0))
			carries(t, v, year, next, append(paper(api.DocEnc, next, 2, 4, line(1, 6, 0, 0)),
				recs.DocLine(1, 0, line(1, 10, 3, 7)), recs.DocLine(2, 0, line(1, 10, 4, 6)))...)
		}
	}
}

// P35.2: if there are not IDs enough, that is told, and nothing is changed; those that end without a new one need none.
func TestCarryIDs(t *testing.T) {
	n := used(node(1, 0, 100, true), 0, 12, 0)
	v := with(t, n)
	file(t, v, api.DocPre, 2020, 0, line(1, 10, 0, 0))
	file(t, v, api.DocEnc, 2020, 0, line(1, 10, 4, 0))
	file(t, v, api.DocEnc, 2020, 0, line(1, 10, 4, 6))
	file(t, v, api.DocEnc, 2020, 0, line(1, 10, 4, 0), line(2, 9, 0, 0))
	for _, last := range []int{top - 1, top, top + 1, -1, math.MinInt, math.MaxInt} {
		count(t, v, 2, last)
		noCarry(t, v, 2020, 2021, api.ErrRange)
	}
	count(t, v, 2, top-2)
	carries(t, v, 2020, 2021, slices.Concat(
		set(ended(n, 88, 12), heir(n, 12)),
		[]api.Pair{recs.DocLine(1, 0, line(1, 10, 0, 10)), recs.DocLine(2, 0, line(1, 10, 4, 6)), recs.DocLine(4, 0, line(1, 10, 4, 6)), recs.DocLine(4, 1, line(2, 9, 0, 9))},
		paper(api.DocEnc, 2021, 2, top-1, line(1, 6, 0, 0)),
		paper(api.DocEnc, 2021, 4, top, line(1, 6, 0, 0), line(2, 9, 0, 0)))...)
	noCarry(t, v, 2021, 2022, api.ErrRange)
	for _, last := range []int{top, -1, math.MinInt, math.MaxInt} {
		v = with(t, n)
		file(t, v, api.DocPre, 2020, 0, line(1, 10, 0, 0))
		file(t, v, api.DocEnc, 2020, 0, line(1, 10, 4, 6), line(1, 10, 11, 0))
		count(t, v, 2, last)
		carries(t, v, 2020, 2021, append(set(ended(n, 88, 12), heir(n, 12)),
			recs.DocLine(1, 0, line(1, 10, 0, 10)), recs.DocLine(2, 1, line(1, 10, 11, -1)))...)
	}
}

// journal are the pairs of an entry, with the counter that gave out its ID.
func journal(id, year, kind int, l ...api.Line) []api.Pair {
	all := []api.Pair{
		{Key: keys.Key('S', 1), Value: field.Pack(id)},
		recs.Entry(api.Entry{ID: id, Year: year, Kind: kind, Lines: len(l)}),
	}
	for at, x := range l {
		all = append(all, recs.Line(id, at, x))
	}
	return all
}

// sums are the pairs of a year's balances of a fund.
func sums(year, fund int, nums ...int) []api.Pair {
	var all []api.Pair
	for _, l := range of(fund, nums...) {
		all = append(all, api.Pair{Key: keys.Key('B', year, fund, l.Object), Value: field.Pack(l.Amount)})
	}
	return all
}

// shut is the pair of a year that is closed.
func shut(year int) api.Pair {
	return api.Pair{Key: keys.Key('Y', year), Value: field.Pack(api.YearClosed)}
}

// without are pairs but those of these keys.
func without(l []api.Pair, ks ...[]byte) []api.Pair {
	return slices.DeleteFunc(slices.Clone(l), func(p api.Pair) bool {
		return slices.ContainsFunc(ks, func(k []byte) bool { return bytes.Equal(k, p.Key) })
	})
}

// posts puts an entry of 2020 of these lines.
func posts(t *testing.T, v *view.View, l ...api.Line) {
	t.Helper()
	_, err := entry.Put(v, api.Entry{Year: 2020, Kind: api.EntryPost}, l)
	right(t, err)
}

// P35.3: without anything to close the year is shut, and nothing else.
func TestCloseNothing(t *testing.T) {
	v := with(t)
	was := v.Scan(nil)
	noClose(t, v, 2020, 2021, api.OK)
	has(t, v, was, shut(2020))
	// The chapter's example.
	noClose(t, v, 2020, 2021, api.ErrClosed)
	has(t, v, was, shut(2020))
	v = with(t, node(1, 0, 20, true))
	right(t, chart.NewFund(v, 100, "General"))
	was = v.Scan(nil)
	noClose(t, v, 2020, 2021, api.OK)
	has(t, v, was, append(set(ended(node(1, 0, 20, true), 20, 0)), shut(2020))...)
}

// P35.3: of each fund, rising, what it got and spent becomes equity, and with the rest it goes on.
func TestClose(t *testing.T) {
	v := with(t)
	for _, fund := range []int{300, 100, 200, 400} {
		right(t, chart.NewFund(v, fund, "Fund"))
	}
	posts(t, v, of(100, cash, 50, 4010, -50)...)
	posts(t, v, of(100, 5010, 20, cash, -20)...)
	posts(t, v, of(300, cash, 7, 2010, -7)...)
	posts(t, v, of(400, 4010, -5, 5010, 5)...)
	was := v.Scan(nil)
	noClose(t, v, 2020, 2021, api.OK)
	want := over(was, slices.Concat(
		journal(5, 2020, api.EntryClose, of(100, 4010, 50, 5010, -20, net, -30)...),
		journal(6, 2021, api.EntryOpen, of(100, cash, 30, net, -30)...),
		journal(7, 2021, api.EntryOpen, of(300, cash, 7, 2010, -7)...),
		journal(8, 2020, api.EntryClose, of(400, 4010, 5, 5010, -5, net, 0)...),
		sums(2020, 100, net, -30), sums(2021, 100, cash, 30, net, -30), sums(2021, 300, cash, 7, 2010, -7),
		[]api.Pair{shut(2020)})...)
	has(t, v, without(want, keys.Key('B', 2020, 100, 4010), keys.Key('B', 2020, 100, 5010), keys.Key('B', 2020, 400, 4010), keys.Key('B', 2020, 400, 5010)))
}

// P35.3: to what stands in the next year already it is added; and what funds owe one another goes on too.
func TestCloseNext(t *testing.T) {
	v := with(t)
	right(t, chart.NewFund(v, 100, "General"))
	right(t, chart.NewFund(v, 200, "Roads"))
	posts(t, v, append(of(100, 5010, 5), of(200, cash, -5)...)...)
	_, err := entry.Put(v, api.Entry{Year: 2021, Kind: api.EntryPost}, of(200, cash, 9, net, -9))
	right(t, err)
	noClose(t, v, 2020, 2021, api.OK)
	for _, c := range []struct {
		year, fund int
		want       []api.Line
	}{
		{2020, 100, of(100, dueTo, -5, net, 5)}, {2020, 200, of(200, cash, -5, dueFrom, 5)},
		{2021, 100, of(100, dueTo, -5, net, 5)}, {2021, 200, of(200, cash, 4, dueFrom, 5, net, -9)},
	} {
		result(t, v, c.year, c.fund)
		stands(t, v, c.year, c.fund, c.want...)
	}
	if !trial.Right(v, 2020) || !trial.Right(v, 2021) || entry.Last(v) != 5 {
		t.Errorf("%v, %v, %d", trial.Sums(v, 2020), trial.Sums(v, 2021), entry.Last(v))
	}
}

// P35.3: where balances are not level, the entries are made so; of a fund that is not there nothing is closed.
func TestCloseUneven(t *testing.T) {
	v := with(t)
	right(t, chart.NewFund(v, 100, "General"))
	balance(t, v, 2020, 100, cash, 8)
	balance(t, v, 2020, 100, net, 3)
	balance(t, v, 2020, 100, 4010, -50)
	balance(t, v, 2020, 100, 6000, 77)
	balance(t, v, 2020, 200, 4010, -9)
	balance(t, v, 2020, 200, cash, 9)
	was := v.Scan(nil)
	noClose(t, v, 2020, 2021, api.OK)
	want := over(was, slices.Concat(
		journal(1, 2020, api.EntryClose, of(100, 4010, 50, net, -50)...),
		journal(2, 2021, api.EntryOpen, of(100, cash, 8, net, -47, dueFrom, 39)...),
		sums(2020, 100, net, -47), sums(2021, 100, cash, 8, net, -47, dueFrom, 39),
		[]api.Pair{shut(2020)})...)
	has(t, v, without(want, keys.Key('B', 2020, 100, 4010)))
}

// P35.3: the errors in their order; those ahead of the first change change nothing.
func TestCloseErrors(t *testing.T) {
	n := used(node(1, 0, 20, true), 0, 6, 0)
	moved := heir(n, 0)
	moved.Parent = 9
	v := with(t, n, moved)
	right(t, years.Open(v, 2030))
	right(t, years.Open(v, 2018))
	was := v.Scan(nil)
	for _, c := range []struct {
		year, next int
		want       api.Errno
	}{
		{2017, 2018, api.ErrNone}, {2022, 2019, api.ErrNone}, {2019, 2022, api.ErrClosed}, {2019, 2020, api.ErrClosed}, {2021, 2022, api.ErrNone}, {2020, 2019, api.ErrClosed}, {2018, 2019, api.ErrClosed}, {2020, 2022, api.ErrNone},
		{2020, 2020, api.ErrArg}, {2020, 2030, api.ErrArg}, {2021, 2020, api.ErrArg}, {2020, 2018, api.ErrArg}, {2030, 2020, api.ErrArg},
		{-1, 0, api.ErrNone}, {2020, -1, api.ErrNone}, {2020, 1<<32 + 2021, api.ErrNone}, {1<<32 + 2020, 2021, api.ErrNone}, {math.MinInt, math.MaxInt, api.ErrNone}, {math.MaxInt, math.MinInt, api.ErrNone},
		{2020, 2021, api.ErrState},
	} {
		noClose(t, v, c.year, c.next, c.want)
		has(t, v, was)
	}
	there := heir(n, 0)
	there.Limit = bound - 5
	stand(t, v, there)
	noClose(t, v, 2020, 2021, api.ErrRange)
	there.Limit--
	stand(t, v, there)
	noClose(t, v, 2020, 2021, api.OK)
}

// P35.3: errors of the entries, the first one of the first fund, each with the view as it was behind an Abort.
func TestCloseEntries(t *testing.T) {
	v := with(t)
	right(t, chart.NewFund(v, 100, "General"))
	right(t, chart.NewFund(v, 200, "Roads"))
	balance(t, v, 2020, 100, 4010, -50)
	balance(t, v, 2020, 100, cash, 50)
	balance(t, v, 2020, 200, cash, 50)
	right(t, v.Commit())
	was := v.Scan(nil)
	try := func(want api.Errno, change func()) {
		t.Helper()
		change()
		noClose(t, v, 2020, 2021, want)
		v.Abort()
		has(t, v, was)
	}
	// There are three entries to make.
	for _, last := range []int{top - 2, top - 1, top, -1, math.MaxInt} {
		try(api.ErrRange, func() { count(t, v, 1, last) })
	}
	try(api.OK, func() { count(t, v, 1, top-3) })
	// Balances that go beyond what may be: of the closing entry, and of each opening one.
	try(api.ErrRange, func() { balance(t, v, 2020, 100, net, -total+49) })
	try(api.OK, func() { balance(t, v, 2020, 100, net, -total+50) })
	try(api.ErrRange, func() { balance(t, v, 2020, 100, 4010, math.MinInt) })
	try(api.ErrRange, func() { balance(t, v, 2021, 100, cash, total-49) })
	try(api.OK, func() { balance(t, v, 2021, 100, cash, total-50) })
	try(api.ErrRange, func() { balance(t, v, 2021, 200, cash, total-49) })
	try(api.OK, func() { balance(t, v, 2021, 200, cash, total-50) })
	// Entries of more lines than may be; of the closing one Equity is one.
	lines := func(first, n int) func() {
		return func() {
			for object := range n {
				balance(t, v, 2020, 100, first+object, 1)
			}
		}
	}
	try(api.OK, lines(4010, 199))
	try(api.ErrArg, lines(4010, 200))
	try(api.OK, lines(cash, 199))
	try(api.ErrArg, lines(cash, 200))
	// The documents' IDs are looked at ahead of all entries.
	try(api.ErrRange, func() {
		lines(4010, 200)()
		file(t, v, api.DocEnc, 2020, 0, line(1, 5, 0, 0))
		count(t, v, 2, top)
	})
}

// P35.3, P35.4: the document's seventh example.
func TestExample(t *testing.T) {
	v := view.New(nil)
	right(t, years.Open(v, 2020))
	right(t, years.Open(v, 2021))
	right(t, chart.NewFund(v, 100, "General"))
	right(t, chart.NewObject(v, 5010))
	right(t, shift.New(v, api.Node{Year: 2020, ID: 1, Fund: 100, Object: 5010, Absolute: true, Limit: 20}))
	id, _, err := enc.New(v, 2020, 0, []api.Line{{Node: 1, Amount: 6}})
	right(t, err)
	noClose(t, v, 2020, 2021, api.OK)
	if n, _ := tree.Get(v, 2020, 1); n.Carried != 6 || n.Lapsed != 14 || n.Enc != 0 {
		t.Errorf("the node is %v", n)
	}
	if n, _ := tree.Get(v, 2021, 1); n != (api.Node{Year: 2021, ID: 1, Fund: 100, Object: 5010, Absolute: true, Limit: 6, Enc: 6}) {
		t.Errorf("its heir is %v", n)
	}
	if d, l, _ := docs.Get(v, id+1); d != (api.Doc{ID: id + 1, Kind: api.DocEnc, Year: 2021, From: id, Lines: 1}) || !slices.Equal(l, []api.DocLine{line(1, 6, 0, 0)}) {
		t.Errorf("the document is %v of %v", d, l)
	}
	// It is spent in the next year, and in the old one nothing is.
	if _, _, err := exp.New(v, 2020, id, []api.Line{{Amount: 1}}); err != api.ErrClosed {
		t.Errorf("spent in 2020: %d", err)
	}
	if _, warned, err := exp.New(v, 2021, id+1, []api.Line{{Amount: 6}}); warned || err != api.OK {
		t.Errorf("spent in 2021: %t, %d", warned, err)
	}
}

// books is a whole ledger in tables.
type books struct {
	nodes    map[[2]int]api.Node
	docs     map[int]api.Doc
	lines    map[[2]int]api.DocLine
	balances map[[3]int]int
	funds    []int
	last     map[int]int
	others   []api.Pair
	merged   int // nodes that were there in the next year
}

// read reads a whole ledger.
func read(t *testing.T, l []api.Pair) *books {
	b := &books{map[[2]int]api.Node{}, map[int]api.Doc{}, map[[2]int]api.DocLine{}, map[[3]int]int{}, nil, map[int]int{}, nil, 0}
	for _, p := range l {
		tag, nums, ok := keys.Split(p.Key)
		if !ok {
			t.Fatalf("a key %v", p.Key)
		}
		switch tag {
		case 'N':
			n, _ := recs.NodeOf(p)
			b.nodes[[2]int(nums)] = n
		case 'D':
			b.docs[nums[0]], _ = recs.DocOf(p)
		case 'L':
			b.lines[[2]int(nums)], _ = recs.DocLineOf(p)
		case 'B', 'S':
			n, err := field.Unpack(p.Value, 1)
			right(t, err)
			if tag == 'B' {
				b.balances[[3]int(nums)] = n[0]
			} else {
				b.last[nums[0]] = n[0]
			}
		case 'F':
			b.funds = append(b.funds, nums[0])
			b.others = append(b.others, p)
		default:
			b.others = append(b.others, p)
		}
	}
	return b
}

// pairs are all that the books hold.
func (b *books) pairs() []api.Pair {
	all := slices.Clone(b.others)
	for _, n := range b.nodes {
		all = append(all, recs.Node(n))
	}
	for _, d := range b.docs {
		all = append(all, recs.Doc(d))
	}
	for at, x := range b.lines {
		all = append(all, recs.DocLine(at[0], at[1], x))
	}
	for at, n := range b.balances {
		if n != 0 {
			all = append(all, api.Pair{Key: keys.Key('B', at[:]...), Value: field.Pack(n)})
		}
	}
	for which, n := range b.last {
		all = append(all, api.Pair{Key: keys.Key('S', which), Value: field.Pack(n)})
	}
	slices.SortFunc(all, func(a, b api.Pair) int { return bytes.Compare(a.Key, b.Key) })
	return all
}

// end ends a year in the tables; false, if a node stands otherwise in the next one.
func (b *books) end(year int) bool {
	for at, n := range b.nodes {
		if at[0] != year {
			continue
		}
		to, there := b.nodes[[2]int{year + 1, at[1]}]
		switch {
		case n.Enc == 0:
		case !there:
			b.nodes[[2]int{year + 1, at[1]}] = in(year+1, heir(n, n.Enc))
		case to.Parent != n.Parent || to.Fund != n.Fund || to.Object != n.Object || to.Absolute != n.Absolute:
			return false
		default:
			b.merged++
			to.Limit, to.Enc = to.Limit+n.Enc, to.Enc+n.Enc
			b.nodes[[2]int{year + 1, at[1]}] = to
		}
		b.nodes[at] = ended(n, n.Limit-n.Exp-n.Enc, n.Enc)
	}
	for id := 1; id <= b.last[2]; id++ {
		if d := b.docs[id]; d.Year == year && d.Kind != api.DocExp {
			b.stop(d)
		}
	}
	for _, fund := range b.funds {
		b.turn(year, fund)
	}
	for at, p := range b.others {
		if bytes.Equal(p.Key, keys.Key('Y', year)) {
			b.others[at] = shut(year)
		}
	}
	return true
}

// stop ends a document, and makes it again in the next year if it is an encumbrance.
func (b *books) stop(d api.Doc) {
	again := 0
	for at := range d.Lines {
		x := b.lines[[2]int{d.ID, at}]
		rest := x.Original - x.Liquidated - x.Cancelled
		if rest > 0 && d.Kind == api.DocEnc {
			if again == 0 {
				b.last[2]++
			}
			b.lines[[2]int{b.last[2], again}] = line(x.Node, rest, 0, 0)
			again++
		}
		x.Cancelled += rest
		b.lines[[2]int{d.ID, at}] = x
	}
	if again > 0 {
		b.docs[b.last[2]] = api.Doc{ID: b.last[2], Kind: api.DocEnc, Year: d.Year + 1, From: d.ID, Lines: again}
	}
}

// turn closes a fund's balances, and opens them.
func (b *books) turn(year, fund int) {
	var ends, goes []api.Line
	sum := 0
	for object := 1000; object < 6000; object++ {
		n := b.balances[[3]int{year, fund, object}]
		if n != 0 && object >= 4000 {
			ends = append(ends, api.Line{Fund: fund, Object: object, Amount: -n})
			sum += n
		}
	}
	if len(ends) > 0 {
		b.post(year, api.EntryClose, append(ends, api.Line{Fund: fund, Object: net, Amount: sum}))
	}
	for object := 1000; object < 4000; object++ {
		if n := b.balances[[3]int{year, fund, object}]; n != 0 {
			goes = append(goes, api.Line{Fund: fund, Object: object, Amount: n})
		}
	}
	if len(goes) > 0 {
		b.post(year+1, api.EntryOpen, goes)
	}
}

func (b *books) post(year, kind int, l []api.Line) {
	b.last[1]++
	b.others = append(b.others, recs.Entry(api.Entry{ID: b.last[1], Year: year, Kind: kind, Lines: len(l)}))
	for at, x := range l {
		b.others = append(b.others, recs.Line(b.last[1], at, x))
		b.balances[[3]int{year, x.Fund, x.Object}] += x.Amount
	}
}

// life is a ledger on a disk in which something is done each time.
type life struct {
	*view.View
	rand uint32
	year int
}

func (l *life) next(n int) int {
	l.rand = l.rand*1664525 + 1013904223
	return int(l.rand>>16) % n
}

// command does something of the year that is the open one, or of the next, and keeps it if it may be.
func (l *life) command() {
	year := l.year + l.next(3)/2
	var err api.Errno
	nodes := []api.Line{{Node: 1 + l.next(8), Amount: 1 + l.next(40)}, {Node: 1 + l.next(8), Amount: 1 + l.next(40)}}[:1+l.next(2)]
	places := []api.Line{{Node: l.next(2), Amount: 1 + l.next(15)}}
	from := 1 + l.next(docs.Last(l.View)+1)
	switch l.next(11) {
	case 0, 1:
		id := 1 + l.next(1+l.next(8))
		// From 2025 on a node is not what it was before.
		err = shift.New(l.View, api.Node{Year: year, ID: id, Parent: id / 2, Fund: 100 * (1 + id%3), Object: 5000 + id%2, Absolute: (id+year/5)%2 == 0, Limit: 40 + 300/id})
	case 2:
		fund, to := 100*(1+l.next(3)), 100*(1+l.next(3))
		sum := 1 + l.next(90)
		post := append(of(fund, []int{cash, 2010, 4000, 5001}[l.next(4)], sum), of(to, []int{4000, 4010, cash}[l.next(3)], -sum)...)
		if err = years.Check(l.View, year); err == api.OK {
			err = lines.Check(l.View, post)
		}
		if err == api.OK {
			_, err = entry.Put(l.View, api.Entry{Year: year, Kind: api.EntryPost}, post)
		}
	case 3:
		_, _, err = pre.New(l.View, year, nodes)
	case 4, 9, 10:
		_, _, err = enc.New(l.View, year, 0, nodes)
	case 5:
		_, _, err = enc.New(l.View, year, from, places)
	case 6:
		_, _, err = exp.New(l.View, year, 0, nodes)
	case 7:
		_, _, err = exp.New(l.View, year, from, places)
	case 8:
		err = shift.Cancel(l.View, from, l.next(2), 1+l.next(9))
	}
	if err != api.OK {
		l.Abort()
	}
}

// lapsed looks that of each node of a closed year what lapsed and what was carried is what was not spent, and that each line that was open is open in the next year.
func lapsed(t *testing.T, v *view.View, was *books, year int) {
	t.Helper()
	now := read(t, v.Scan(nil))
	for at, n := range now.nodes {
		if at[0] == year && (n.Lapsed+n.Carried != n.Limit-n.Exp || n.Pre != 0 || n.Enc != 0 || n.Carried != was.nodes[at].Enc) {
			t.Errorf("%v was %v", n, was.nodes[at])
		}
	}
	var open, opened []api.DocLine
	for id := range was.last[2] {
		d := was.docs[id+1]
		for at := range d.Lines {
			x := was.lines[[2]int{d.ID, at}]
			if rest := docs.Open(x); d.Year == year && d.Kind == api.DocEnc && rest > 0 {
				open = append(open, line(x.Node, rest, 0, 0))
			}
			if d.Year == year && d.Kind != api.DocExp && docs.Open(now.lines[[2]int{d.ID, at}]) != 0 {
				t.Errorf("line %d of %v is open", at, d)
			}
		}
	}
	for id := was.last[2] + 1; id <= now.last[2]; id++ {
		d, l, there := docs.Get(v, id)
		if !there || d.Year != year+1 || d.Kind != api.DocEnc || was.docs[d.From].Year != year {
			t.Errorf("document %d is %v", id, d)
		}
		opened = append(opened, l...)
	}
	if !slices.Equal(open, opened) {
		t.Errorf("open were %v, and are %v", open, opened)
	}
}

// P35.3, P35.4: long lives on a disk, each year held against tables when it is closed.
func TestMany(t *testing.T) {
	closed, refused, carried, merged, renewed := 0, 0, 0, 0, 0
	for seed := range 8 {
		d, _ := disk.New(2001)
		k, err := kv.Format(d)
		right(t, err)
		l := &life{view.New(k), uint32(seed + 1), 2020}
		right(t, years.Open(l.View, 2020))
		for _, fund := range []int{100, 200, 300} {
			right(t, chart.NewFund(l.View, fund, "Fund"))
		}
		for _, object := range []int{2010, 4000, 4010, 5000, 5001} {
			right(t, chart.NewObject(l.View, object))
		}
		for range 6 {
			right(t, years.Open(l.View, l.year+1))
			for range 60 {
				right(t, l.Commit())
				l.command()
			}
			right(t, l.Commit())
			was, want := read(t, l.Scan(nil)), read(t, l.Scan(nil))
			if !want.end(l.year) {
				noClose(t, l.View, l.year, l.year+1, api.ErrState)
				l.Abort()
				refused++
				break
			}
			noClose(t, l.View, l.year, l.year+1, api.OK)
			right(t, l.Commit())
			has(t, l.View, want.pairs())
			lapsed(t, l.View, was, l.year)
			closed++
			carried += len(want.nodes) - len(was.nodes)
			merged += want.merged
			renewed += want.last[2] - was.last[2]
			if !trial.Right(l.View, l.year) || !trial.Right(l.View, l.year+1) {
				t.Errorf("%v, %v", trial.Sums(l.View, l.year), trial.Sums(l.View, l.year+1))
			}
			l.year++
		}
	}
	if closed < 20 || refused == 0 || carried < 20 || merged < 20 || renewed < 30 {
		t.Errorf("only so much was done: %d, %d, %d, %d, %d", closed, refused, carried, merged, renewed)
	}
}

// P35.2, P35.3: the view is changed, and nothing below it till its Commit.
func TestOnDisk(t *testing.T) {
	d, _ := disk.New(201)
	k, err := kv.Format(d)
	right(t, err)
	v := view.New(k)
	begin(t, v)
	right(t, chart.NewFund(v, 100, "General"))
	n := used(node(1, 0, 20, true), 1, 6, 0)
	stand(t, v, n)
	file(t, v, api.DocEnc, 2020, 0, line(1, 6, 0, 0))
	posts(t, v, of(100, cash, 5, 2010, -5)...)
	right(t, v.Commit())
	was := v.Scan(nil)
	noClose(t, v, 2020, 2021, api.OK)
	has(t, view.New(k), was)
	v.Abort()
	has(t, v, was)
	noClose(t, v, 2020, 2021, api.OK)
	right(t, v.Commit())
	has(t, view.New(k), was, slices.Concat(
		set(ended(n, 14, 6), heir(n, 6)),
		[]api.Pair{recs.DocLine(1, 0, line(1, 6, 0, 6)), shut(2020)},
		paper(api.DocEnc, 2021, 1, 2, line(1, 6, 0, 0)),
		journal(2, 2021, api.EntryOpen, of(100, cash, 5, 2010, -5)...),
		sums(2021, 100, cash, 5, 2010, -5))...)

	// In a view whose store met an error there is no year, and nothing to carry.
	d.Arm(0)
	d.Write(0, make([]byte, api.Sector))
	noClose(t, v, 2021, 2022, api.ErrNone)
	if err := Carry(v, 2021, 2022); err != api.OK {
		t.Errorf("Carry: %d", err)
	}
	result(t, v, 2020, 100)
	stands(t, v, 2020, 100)
	if err := v.Err(); err != api.ErrDown {
		t.Errorf("Err: %d", err)
	}
}

// P35.1, P35.2, P35.3, R5: in a view that no call made there is no year, and nothing to carry.
func TestNoView(t *testing.T) {
	for _, v := range []*view.View{nil, {}} {
		noClose(t, v, 2020, 2021, api.ErrNone)
		noClose(t, v, 2020, 2020, api.ErrNone)
		carries(t, v, 2020, 2021)
		result(t, v, 2020, 100)
		stands(t, v, 2020, 100)
	}
}

// R3: what is answered may be changed.
func TestNothingShared(t *testing.T) {
	v := with(t)
	balance(t, v, 2020, 100, 4010, -50)
	balance(t, v, 2020, 100, cash, 50)
	was := v.Scan(nil)
	for range 2 {
		a, b := Result(v, 2020, 100), Stand(v, 2020, 100)
		clear(a[:cap(a)])
		clear(b[:cap(b)])
		result(t, v, 2020, 100, of(100, 4010, 50, net, -50)...)
		stands(t, v, 2020, 100, of(100, cash, 50)...)
	}
	has(t, v, was)
	if l := bal.All(v, 2020); len(l) != 2 {
		t.Errorf("the balances are %v", l)
	}
}
