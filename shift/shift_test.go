package shift

import (
	"bytes"
	"math"
	"slices"
	"testing"

	"exchequer/api"
	"exchequer/chart"
	"exchequer/disk"
	"exchequer/docs"
	"exchequer/enc"
	"exchequer/exp"
	"exchequer/kv"
	"exchequer/pre"
	"exchequer/recs"
	"exchequer/tree"
	"exchequer/view"
	"exchequer/years"
)

const (
	top = 1<<32 - 1
	// maxNode, maxTree, mostAmount and bound are MaxNode, MaxTree, MaxAmount and 2^60, written out.
	maxNode    = 999
	maxTree    = 8
	mostAmount = 9007199254740992
	bound      = 1152921504606846976
)

// node is one of 2020 with a limit, of which nothing is used.
func node(id, parent, limit int, absolute bool) api.Node {
	return api.Node{Year: 2020, ID: id, Parent: parent, Fund: 100, Object: 5010, Absolute: absolute, Limit: limit}
}

// used is a node of which something is: pre-encumbered, encumbered and spent.
func used(n api.Node, pre, enc, exp int) api.Node {
	n.Pre, n.Enc, n.Exp = pre, enc, exp
	return n
}

// limited is a node with another limit.
func limited(n api.Node, limit int) api.Node {
	n.Limit = limit
	return n
}

// with is a view in which 2020 is open, 2019 is closed, and there are fund 100, object 5010 and these nodes.
func with(t *testing.T, l ...api.Node) *view.View {
	t.Helper()
	v := view.New(nil)
	begin(t, v, l...)
	return v
}

func begin(t *testing.T, v *view.View, l ...api.Node) {
	t.Helper()
	right(t, years.Open(v, 2019))
	right(t, years.Shut(v, 2019))
	right(t, years.Open(v, 2020))
	right(t, chart.NewFund(v, 100, "General"))
	right(t, chart.NewObject(v, 5010))
	stand(t, v, l...)
}

func right(t *testing.T, err api.Errno) {
	t.Helper()
	if err != api.OK {
		t.Fatalf("error %d", err)
	}
}

func stand(t *testing.T, v *view.View, l ...api.Node) {
	t.Helper()
	for _, n := range l {
		right(t, tree.Put(v, n))
	}
}

// reserved makes a document of one line for each two numbers, a node and an amount; its ID is answered.
func reserved(t *testing.T, v *view.View, kind int, nums ...int) int {
	t.Helper()
	var l []api.Line
	for at := 0; at < len(nums); at += 2 {
		l = append(l, api.Line{Node: nums[at], Amount: nums[at+1]})
	}
	id, err := 0, api.OK
	switch kind {
	case api.DocPre:
		id, _, err = pre.New(v, 2020, l)
	case api.DocEnc:
		id, _, err = enc.New(v, 2020, 0, l)
	case api.DocExp:
		id, _, err = exp.New(v, 2020, 0, l)
	}
	right(t, err)
	return id
}

func samePairs(a, b []api.Pair) bool {
	return slices.EqualFunc(a, b, func(a, b api.Pair) bool {
		return bytes.Equal(a.Key, b.Key) && bytes.Equal(a.Value, b.Value)
	})
}

// over are pairs with these others put over them.
func over(was []api.Pair, puts ...api.Pair) []api.Pair {
	all := slices.Clone(was)
	for _, p := range puts {
		all = slices.DeleteFunc(all, func(q api.Pair) bool { return bytes.Equal(p.Key, q.Key) })
		all = append(all, p)
	}
	slices.SortFunc(all, func(a, b api.Pair) int { return bytes.Compare(a.Key, b.Key) })
	return all
}

// has looks that a view is as it was, but for these nodes.
func has(t *testing.T, v *view.View, was []api.Pair, l ...api.Node) {
	t.Helper()
	var puts []api.Pair
	for _, n := range l {
		puts = append(puts, recs.Node(n))
	}
	if got, want := v.Scan(nil), over(was, puts...); !samePairs(got, want) {
		t.Errorf("there stand %v, not %v", got, want)
	}
}

// makes looks what New answers; if it makes the node, it stands, of nothing is anything used, and nothing else changes.
func makes(t *testing.T, v *view.View, n api.Node, want api.Errno) {
	t.Helper()
	was := v.Scan(nil)
	if err := New(v, n); err != want {
		t.Errorf("New %v: %d, not %d", n, err, want)
	}
	if want != api.OK {
		has(t, v, was)
		return
	}
	n.Pre, n.Enc, n.Exp, n.Lapsed, n.Carried = 0, 0, 0, 0, 0
	has(t, v, was, n)
}

// amends looks that a node is amended, and how it stands then.
func amends(t *testing.T, v *view.View, id, more int, warned bool, want api.Node) {
	t.Helper()
	was := v.Scan(nil)
	if got, err := Amend(v, 2020, id, more); got != warned || err != api.OK {
		t.Errorf("Amend %d %d: %t, %d, not %t", id, more, got, err, warned)
	}
	has(t, v, was, want)
}

// noAmend looks that an Amend is refused, and changes nothing.
func noAmend(t *testing.T, v *view.View, year, id, more int, want api.Errno) {
	t.Helper()
	was := v.Scan(nil)
	if got, err := Amend(v, year, id, more); got || err != want {
		t.Errorf("Amend %d %d %d: %t, %d, not %d", year, id, more, got, err, want)
	}
	has(t, v, was)
}

// moves looks that an amount is moved, and how both nodes stand then.
func moves(t *testing.T, v *view.View, amount int, warned bool, from, to api.Node) {
	t.Helper()
	was := v.Scan(nil)
	if got, err := Move(v, 2020, from.ID, to.ID, amount); got != warned || err != api.OK {
		t.Errorf("Move %d from %d to %d: %t, %d, not %t", amount, from.ID, to.ID, got, err, warned)
	}
	has(t, v, was, from, to)
}

// noMove looks that a Move is refused, and changes nothing, not even what was not committed yet.
func noMove(t *testing.T, v *view.View, year, from, to, amount int, want api.Errno) {
	t.Helper()
	was := v.Scan(nil)
	if got, err := Move(v, year, from, to, amount); got || err != want {
		t.Errorf("Move %d %d from %d to %d: %t, %d, not %d", year, amount, from, to, got, err, want)
	}
	has(t, v, was)
}

// cancels looks that an amount of a line is, and how the line, and its nodes, stand then.
func cancels(t *testing.T, v *view.View, doc, line, amount int, x api.DocLine, l ...api.Node) {
	t.Helper()
	was := v.Scan(nil)
	if err := Cancel(v, doc, line, amount); err != api.OK {
		t.Errorf("Cancel %d %d %d: %d", doc, line, amount, err)
	}
	has(t, v, over(was, recs.DocLine(doc, line, x)), l...)
}

// noCancel looks that a Cancel is refused.
func noCancel(t *testing.T, v *view.View, doc, line, amount int, want api.Errno) {
	t.Helper()
	was := v.Scan(nil)
	if err := Cancel(v, doc, line, amount); err != want {
		t.Errorf("Cancel %d %d %d: %d, not %d", doc, line, amount, err, want)
	}
	has(t, v, was)
}

// P34.1: a node stands as it is, but for what is used of it, and what became of it.
func TestNew(t *testing.T) {
	v := with(t)
	right(t, chart.NewFund(v, 999, "Last"))
	right(t, chart.NewObject(v, 5000))
	right(t, chart.NewObject(v, 5999))
	right(t, years.Open(v, 2021))
	makes(t, v, node(1, 0, 100, true), api.OK)
	makes(t, v, node(2, 1, 60, false), api.OK)
	makes(t, v, node(3, 1, 40, true), api.OK)
	makes(t, v, node(4, 2, 60, true), api.OK)
	makes(t, v, api.Node{Year: 2020, ID: 5, Fund: 999, Object: 5000, Absolute: true, Limit: 7, Pre: 1, Enc: 2, Exp: 3, Lapsed: 4, Carried: 5}, api.OK)
	makes(t, v, api.Node{Year: 2021, ID: 5, Fund: 999, Object: 5999, Limit: 7, Pre: -1, Enc: math.MinInt, Exp: math.MaxInt, Lapsed: bound, Carried: -1}, api.OK)
	if n, there := tree.Get(v, 2020, 5); !there || n != (api.Node{Year: 2020, ID: 5, Fund: 999, Object: 5000, Absolute: true, Limit: 7}) {
		t.Errorf("the node is %v", n)
	}
}

// P34.1: the edges of IDs, limits and objects.
func TestNewArg(t *testing.T) {
	for _, c := range []struct {
		id   int
		want api.Errno
	}{{1, api.OK}, {maxNode, api.OK}, {500, api.OK}, {0, api.ErrArg}, {maxNode + 1, api.ErrArg}, {-1, api.ErrArg}, {1<<32 + 1, api.ErrArg}, {math.MinInt, api.ErrArg}, {math.MaxInt, api.ErrArg}} {
		makes(t, with(t), node(c.id, 0, 5, true), c.want)
	}
	for _, c := range []struct {
		limit int
		want  api.Errno
	}{{0, api.OK}, {1, api.OK}, {mostAmount, api.OK}, {-1, api.ErrArg}, {mostAmount + 1, api.ErrArg}, {bound, api.ErrArg}, {math.MinInt, api.ErrArg}, {math.MaxInt, api.ErrArg}} {
		makes(t, with(t), node(1, 0, c.limit, true), c.want)
	}
	for _, object := range []int{1010, 1900, 2900, 3000, 1500, 2500, 3500, 4500, 4999, 6000, 0, -1, 5, 10000, -5010, 1<<32 + 5010, math.MinInt, math.MaxInt} {
		v := with(t)
		chart.NewObject(v, object)
		n := node(1, 0, 5, true)
		n.Object = object
		makes(t, v, n, api.ErrArg)
	}
}

// P34.1: fund, object and parent must be there.
func TestNewNone(t *testing.T) {
	v := with(t, node(1, 0, 100, true), api.Node{Year: 2021, ID: 7, Limit: 100})
	for _, fund := range []int{0, 101, 99, -100, 999, 1<<32 + 100, math.MinInt, math.MaxInt} {
		n := node(2, 0, 5, true)
		n.Fund = fund
		makes(t, v, n, api.ErrNone)
	}
	for _, object := range []int{5000, 5011, 5999} {
		n := node(2, 0, 5, true)
		n.Object = object
		makes(t, v, n, api.ErrNone)
	}
	for _, parent := range []int{2, 7, -1, maxNode, top, 1<<32 + 1, 1 << 32, 1 - 1<<32, math.MinInt, math.MaxInt} {
		makes(t, v, node(2, parent, 0, true), api.ErrNone)
	}
	makes(t, v, node(2, 1, 0, true), api.OK)
}

// P34.1: the errors in their order.
func TestNewOrder(t *testing.T) {
	many := with(t, node(1, 0, 100, true), node(2, 1, 60, true), node(maxNode+1, 0, 5, true))
	for id := 3; id <= maxTree; id++ {
		stand(t, many, node(id, id-1, 50, true))
	}
	wrong := func(year, id, limit, object int) api.Node {
		return api.Node{Year: year, ID: id, Limit: limit, Object: object, Fund: 50, Parent: 77}
	}
	for _, c := range []struct {
		n    api.Node
		want api.Errno
	}{
		{wrong(2021, 0, -1, 0), api.ErrNone}, {wrong(2019, 0, -1, 0), api.ErrClosed}, {wrong(-1, 0, -1, 0), api.ErrNone}, {wrong(1<<32+2020, 0, -1, 0), api.ErrNone},
		{wrong(2020, 0, 5, 5010), api.ErrArg}, {wrong(2020, 9, -1, 5010), api.ErrArg}, {wrong(2020, 9, 5, 4010), api.ErrArg}, {wrong(2020, 9, 5, 5010), api.ErrNone},
		// One that would be twice: its parent is looked at ahead of it, its place in the tree and limit behind.
		{node(2, 77, 500, true), api.ErrNone}, {node(2, 1, 500, true), api.ErrTwice}, {node(2, maxTree, 500, true), api.ErrTwice}, {node(2, 0, 5, true), api.ErrTwice}, {node(1, 1, 5, true), api.ErrTwice}, {node(2, 1, mostAmount+1, true), api.ErrArg}, {node(maxNode+1, 0, 5, true), api.ErrArg},
		{node(20, maxTree, 51, true), api.ErrArg}, {node(20, maxTree, 5, true), api.ErrArg}, {node(20, maxTree-1, 1, true), api.ErrLimit}, {node(20, maxTree-1, 0, true), api.OK},
		{node(21, 21, 0, true), api.ErrNone}, {node(22, 1, 41, true), api.ErrLimit}, {node(22, 1, 40, true), api.OK},
	} {
		makes(t, many, c.n, c.want)
	}
	v := with(t, node(1, 0, 100, true))
	n := node(2, 77, 5, true)
	n.Fund = 50
	makes(t, v, n, api.ErrNone)
	n = node(1, 0, 5, true)
	n.Fund = 50
	makes(t, v, n, api.ErrNone)
	n = node(1, 0, 5, true)
	n.Object = 5011
	makes(t, v, n, api.ErrNone)
}

// P34.1: a path has at most MaxTree nodes.
func TestNewDeep(t *testing.T) {
	v := with(t)
	makes(t, v, node(1, 0, 50, true), api.OK)
	for id := 2; id <= maxTree; id++ {
		makes(t, v, node(id, id-1, 50, true), api.OK)
	}
	makes(t, v, node(maxTree+1, maxTree, 0, true), api.ErrArg)
	makes(t, v, node(maxTree+1, maxTree-1, 0, true), api.OK)
	// Also where nodes stand in a ring, or where the uppermost one's parent is not there.
	makes(t, with(t, node(1, 2, 50, true), node(2, 1, 50, true)), node(3, 1, 0, true), api.ErrArg)
	makes(t, with(t, node(1, 1, 50, true)), node(3, 1, 0, true), api.ErrArg)
	v = with(t)
	for id := 1; id < maxTree; id++ {
		stand(t, v, node(id, id+1, 50, true))
	}
	makes(t, v, node(20, 1, 50, true), api.OK)
	stand(t, v, node(maxTree, maxTree+1, 50, true))
	makes(t, v, node(21, 1, 0, true), api.ErrArg)
}

// P34.1: nodes below one have together no more than it, whether it is absolute or not, and whatever is used.
func TestNewLimit(t *testing.T) {
	for _, absolute := range []bool{false, true} {
		v := with(t, used(node(1, 0, 10, absolute), 50, 60, 70), node(2, 0, 100, true))
		makes(t, v, node(3, 1, 11, true), api.ErrLimit)
		makes(t, v, node(3, 1, 6, true), api.OK)
		makes(t, v, node(4, 3, 6, true), api.OK)
		makes(t, v, node(5, 1, 5, false), api.ErrLimit)
		makes(t, v, node(5, 1, 4, false), api.OK)
		makes(t, v, node(6, 1, 1, true), api.ErrLimit)
		makes(t, v, node(6, 1, 0, true), api.OK)
		makes(t, v, node(7, 0, mostAmount, true), api.OK)
	}
	// Those of another year, and those without a parent, do not count.
	v := with(t, node(1, 0, 10, true), node(2, 0, 10, true), api.Node{Year: 2021, ID: 3, Parent: 1, Limit: 10}, api.Node{Year: 2020, ID: 0, Limit: 3})
	makes(t, v, node(3, 1, 10, true), api.OK)
	makes(t, v, node(4, 0, 10, true), api.OK)
	// Nodes below that have too much already, and figures that New doesn't make.
	v = with(t, node(1, 0, 10, true), node(2, 1, 11, true), node(3, 0, bound, true), node(4, 3, bound-mostAmount, true), node(5, 0, 10, true), node(6, 5, -5, true))
	makes(t, v, node(7, 1, 0, true), api.ErrLimit)
	makes(t, v, node(8, 3, mostAmount, true), api.OK)
	makes(t, v, node(9, 3, 1, true), api.ErrLimit)
	makes(t, v, node(10, 5, 16, true), api.ErrLimit)
	makes(t, v, node(10, 5, 15, true), api.OK)
}

// P34.2: a limit grows, and gets smaller, of just that node.
func TestAmend(t *testing.T) {
	a, b, c := used(node(1, 0, 100, true), 1, 2, 3), node(2, 1, 60, false), node(3, 1, 30, true)
	a.Lapsed, a.Carried, a.Fund, a.Object = 4, 5, 6, 7
	v := with(t, a, b, c, api.Node{Year: 2021, ID: 1, Limit: 9})
	amends(t, v, 1, 50, false, limited(a, 150))
	amends(t, v, 1, -60, false, limited(a, 90))
	amends(t, v, 2, -60, false, limited(b, 0))
	amends(t, v, 2, 60, false, b)
	amends(t, v, 3, 0, false, c)
	noAmend(t, v, 2020, 3, 1, api.ErrLimit)
	amends(t, v, 2, -1, false, limited(b, 59))
	amends(t, v, 3, 1, false, limited(c, 31))
	noAmend(t, v, 2020, 1, -1, api.ErrLimit)
}

// P34.2: the errors in their order, with the document's years.
func TestAmendErrors(t *testing.T) {
	// 3 is full, and has 4, which is more than used up, below it; 2 has what is at the edge.
	v := with(t, node(1, 0, 100, true), node(2, 0, bound-5, true), node(3, 0, 50, true), used(node(4, 3, 50, true), 20, 20, 20), node(5, 4, 50, true))
	for _, c := range []struct {
		year, id, more int
		want           api.Errno
	}{
		{2021, 1, 1, api.ErrNone}, {2021, 1, mostAmount + 1, api.ErrNone}, {2019, 1, 1, api.ErrClosed}, {2019, 99, mostAmount + 1, api.ErrClosed}, {-1, 1, 1, api.ErrNone}, {1<<32 + 2020, 1, 1, api.ErrNone}, {math.MinInt, 1, 1, api.ErrNone},
		{2020, 99, mostAmount + 1, api.ErrRange}, {2020, 99, -mostAmount - 1, api.ErrRange}, {2020, 1, mostAmount + 1, api.ErrRange}, {2020, 4, mostAmount + 1, api.ErrRange}, {2020, 1, math.MaxInt, api.ErrRange}, {2020, 1, math.MinInt, api.ErrRange},
		{2020, 99, mostAmount, api.ErrNone}, {2020, 99, -mostAmount, api.ErrNone}, {2020, 0, 1, api.ErrNone}, {2020, -1, 1, api.ErrNone}, {2020, 1<<32 + 1, 1, api.ErrNone}, {2020, math.MinInt, 1, api.ErrNone},
		{2020, 4, 1, api.ErrLimit}, {2020, 4, mostAmount, api.ErrLimit}, {2020, 4, -51, api.ErrRange}, {2020, 4, -1, api.ErrLimit}, {2020, 4, 0, api.ErrLimit},
		{2020, 1, -101, api.ErrRange}, {2020, 1, -mostAmount, api.ErrRange}, {2020, 2, 6, api.ErrRange}, {2020, 2, mostAmount, api.ErrRange}, {2020, 3, -51, api.ErrRange}, {2020, 3, -1, api.ErrLimit},
	} {
		noAmend(t, v, c.year, c.id, c.more, c.want)
	}
	amends(t, v, 2, 5, false, node(2, 0, bound, true))
	amends(t, v, 1, mostAmount, false, node(1, 0, mostAmount+100, true))
	amends(t, v, 1, -mostAmount, false, node(1, 0, 100, true))
	amends(t, v, 1, -100, false, node(1, 0, 0, true))
	noAmend(t, v, 2020, 1, -1, api.ErrRange)
	// Where those below a parent have too much already, that is told ahead of what the limit itself may not be.
	v = with(t, node(1, 0, 10, true), node(2, 1, 8, true), node(3, 1, 8, true))
	noAmend(t, v, 2020, 2, -5, api.ErrLimit)
	amends(t, v, 2, -6, false, node(2, 1, 2, true))
	noAmend(t, v, 2020, 3, 1, api.ErrLimit)
	stand(t, v, node(3, 1, 20, true), node(2, 1, 3, true))
	noAmend(t, v, 2020, 2, -4, api.ErrLimit)
	stand(t, v, node(1, 0, 30, true))
	noAmend(t, v, 2020, 2, -4, api.ErrRange)
}

// P34.2: a parent that is not there bounds nothing; one that is advisory does.
func TestAmendParent(t *testing.T) {
	for _, parent := range []int{0, 9, -1, 1<<32 + 1, math.MinInt, math.MaxInt} {
		n := node(1, parent, 5, true)
		amends(t, with(t, n), 1, 1000, false, limited(n, 1005))
	}
	for _, absolute := range []bool{false, true} {
		v := with(t, node(1, 0, 20, absolute), node(2, 1, 5, true), node(3, 1, 5, false))
		noAmend(t, v, 2020, 2, 11, api.ErrLimit)
		amends(t, v, 2, 10, false, node(2, 1, 15, true))
	}
}

// P34.2: what is used bounds an absolute limit, and has an advisory one warn; what is below bounds both.
func TestAmendUsed(t *testing.T) {
	for _, figures := range [][3]int{{10, 0, 0}, {0, 10, 0}, {0, 0, 10}, {3, 3, 4}} {
		n := used(node(1, 0, 15, true), figures[0], figures[1], figures[2])
		v := with(t, n)
		noAmend(t, v, 2020, 1, -6, api.ErrLimit)
		amends(t, v, 1, -5, false, limited(n, 10))
		n.Absolute = false
		v = with(t, n)
		amends(t, v, 1, -5, false, limited(n, 10))
		amends(t, v, 1, -1, true, limited(n, 9))
		amends(t, v, 1, -9, true, limited(n, 0))
		amends(t, v, 1, 0, true, limited(n, 0))
		amends(t, v, 1, 9, true, limited(n, 9))
		amends(t, v, 1, 1, false, limited(n, 10))
	}
	for _, absolute := range []bool{false, true} {
		n := node(1, 0, 15, absolute)
		v := with(t, n, node(2, 1, 4, true), node(3, 1, 6, false), node(4, 3, 6, false))
		noAmend(t, v, 2020, 1, -6, api.ErrLimit)
		amends(t, v, 1, -5, false, limited(n, 10))
	}
	// An absolute one that has used too much may grow only as far as that.
	n := used(node(1, 0, 5, true), 0, 10, 0)
	v := with(t, n)
	noAmend(t, v, 2020, 1, 4, api.ErrLimit)
	amends(t, v, 1, 5, false, limited(n, 10))
}

// P34.2: what one gives, the other has more, among those without a parent, and among those below one.
func TestMove(t *testing.T) {
	a, b, c, d := node(1, 0, 100, true), node(2, 1, 60, false), used(node(3, 1, 30, true), 1, 2, 3), node(4, 0, 5, false)
	v := with(t, a, b, c, d, api.Node{Year: 2021, ID: 2, Limit: 9})
	moves(t, v, 10, false, limited(b, 50), limited(c, 40))
	moves(t, v, 34, false, limited(c, 6), limited(b, 84))
	moves(t, v, 10, false, limited(a, 90), limited(d, 15))
	noMove(t, v, 2020, 1, 4, 1, api.ErrLimit)
	moves(t, v, 15, false, limited(d, 0), limited(a, 105))
	moves(t, v, 1, false, limited(b, 83), limited(c, 7))
}

// P34.2: the errors in their order, with the chapter's example, and the document's sixth one.
func TestMoveErrors(t *testing.T) {
	// 2 may give all, 3 and 8 nothing; 4 may take nothing; 5 has another parent, 6 one that is not there.
	v := with(t, node(1, 0, bound, true), node(2, 1, 100, true), used(node(3, 1, 100, true), 0, 0, 100), node(4, 1, bound, true), node(5, 2, 50, true), node(6, 77, 50, true), node(7, 0, 50, true), node(8, 1, 100, true), node(9, 8, 100, false))
	for _, c := range []struct {
		year, from, to, amount int
		want                   api.Errno
	}{
		{2021, 2, 3, 1, api.ErrNone}, {2021, 2, 2, 0, api.ErrNone}, {2019, 2, 3, 1, api.ErrClosed}, {2019, 2, 2, 0, api.ErrClosed}, {1<<32 + 2020, 2, 3, 1, api.ErrNone}, {math.MinInt, 2, 3, 1, api.ErrNone},
		{2020, 2, 2, 1, api.ErrArg}, {2020, 99, 99, 1, api.ErrArg}, {2020, 2, 3, 0, api.ErrArg}, {2020, 2, 3, -1, api.ErrArg}, {2020, 2, 3, mostAmount + 1, api.ErrArg}, {2020, 2, 3, math.MinInt, api.ErrArg}, {2020, 2, 3, math.MaxInt, api.ErrArg}, {2020, 99, 98, 0, api.ErrArg}, {2020, 2, 5, 0, api.ErrArg},
		{2020, 2, 99, 1, api.ErrNone}, {2020, 99, 2, 1, api.ErrNone}, {2020, 3, 99, 1, api.ErrNone}, {2020, 0, 2, 1, api.ErrNone}, {2020, 2, 0, 1, api.ErrNone}, {2020, -1, 2, 1, api.ErrNone}, {2020, 2, 1<<32 + 3, 1, api.ErrNone}, {2020, math.MinInt, math.MaxInt, 1, api.ErrNone},
		{2020, 2, 5, 1, api.ErrState}, {2020, 5, 2, 1, api.ErrState}, {2020, 2, 1, 1, api.ErrState}, {2020, 1, 2, 1, api.ErrState}, {2020, 6, 7, 1, api.ErrState}, {2020, 3, 7, mostAmount, api.ErrState},
		{2020, 2, 3, 101, api.ErrRange}, {2020, 2, 3, mostAmount, api.ErrRange}, {2020, 3, 2, 1, api.ErrLimit}, {2020, 3, 2, 101, api.ErrRange}, {2020, 8, 2, 1, api.ErrLimit}, {2020, 8, 2, 101, api.ErrRange},
		{2020, 2, 4, 1, api.ErrRange}, {2020, 3, 4, 1, api.ErrLimit}, {2020, 2, 4, 50, api.ErrRange}, {2020, 2, 4, 51, api.ErrLimit}, {2020, 2, 3, 51, api.ErrLimit},
	} {
		noMove(t, v, c.year, c.from, c.to, c.amount, c.want)
	}
	moves(t, v, 50, false, node(2, 1, 50, true), used(node(3, 1, 150, true), 0, 0, 100))
	moves(t, v, 50, false, used(node(3, 1, 100, true), 0, 0, 100), node(2, 1, 100, true))
	moves(t, v, mostAmount, false, node(4, 1, bound-mostAmount, true), node(2, 1, mostAmount+100, true))
	// What the taker's own figures do not allow, though it has more then, leaves the giver as it was.
	v = with(t, node(1, 0, 20, true), used(node(2, 0, 5, true), 9, 9, 9), node(3, 0, 5, false), node(4, 3, 12, true))
	noMove(t, v, 2020, 1, 2, 20, api.ErrLimit)
	noMove(t, v, 2020, 1, 3, 6, api.ErrLimit)
	moves(t, v, 7, false, node(1, 0, 13, true), node(3, 0, 12, false))
	stand(t, v, node(1, 0, 22, true))
	moves(t, v, 22, false, node(1, 0, 0, true), used(node(2, 0, 27, true), 9, 9, 9))
	// A refused one leaves no trace among the changes either.
	v = with(t, node(1, 0, 20, true), used(node(2, 0, 5, true), 9, 9, 9))
	right(t, v.Commit())
	noMove(t, v, 2020, 1, 2, 20, api.ErrLimit)
	if puts, dels := v.Changes(); len(puts)+len(dels) > 0 {
		t.Errorf("changed are %v, %v", puts, dels)
	}
}

// P34.2: a warning of either is told.
func TestMoveWarned(t *testing.T) {
	for _, c := range []struct {
		from, to int
		warned   bool
	}{{5, 15, false}, {6, 15, true}, {5, 16, true}, {6, 16, true}, {0, 0, false}} {
		a, b := used(node(1, 0, 10, false), c.from, 0, 0), used(node(2, 0, 10, false), 0, c.to, 0)
		moves(t, with(t, a, b), 5, c.warned, limited(a, 5), limited(b, 15))
		if c.from <= 5 {
			a.Absolute = true
			moves(t, with(t, a, b), 5, c.warned, limited(a, 5), limited(b, 15))
		}
		if c.to <= 15 {
			b.Absolute = true
			moves(t, with(t, a, b), 5, c.warned, limited(a, 5), limited(b, 15))
		}
	}
}

// P34.2: nodes that stand in a ring are looked at one behind the other, as any others.
func TestMoveRing(t *testing.T) {
	// Below the taker are both: what is given is below it no longer when it takes.
	taker, giver := node(1, 1, 10, false), node(2, 1, 20, false)
	v := with(t, taker, giver)
	noMove(t, v, 2020, 2, 1, 9, api.ErrLimit)
	moves(t, v, 10, false, limited(giver, 10), limited(taker, 20))
	// Below the giver are both, with what they have ahead.
	giver, taker = node(1, 1, 10, false), node(2, 1, -9, false)
	v = with(t, giver, taker)
	noMove(t, v, 2020, 1, 2, 10, api.ErrLimit)
	moves(t, v, 9, false, limited(giver, 1), limited(taker, 0))
}

// P34.3: what is cancelled is open no longer, and no more pre-encumbered, nor encumbered, of its node and those above; with the document's fifth example.
func TestCancel(t *testing.T) {
	a, b := node(1, 0, 100, true), node(2, 1, 50, false)
	v := with(t, a, b)
	one := reserved(t, v, api.DocPre, 2, 10, 1, 20)
	two := reserved(t, v, api.DocEnc, 2, 7, 2, 8)
	cancels(t, v, one, 0, 4, api.DocLine{Node: 2, Original: 10, Cancelled: 4}, used(a, 26, 15, 0), used(b, 6, 15, 0))
	cancels(t, v, one, 1, 20, api.DocLine{Node: 1, Original: 20, Cancelled: 20}, used(a, 6, 15, 0))
	cancels(t, v, two, 1, 5, api.DocLine{Node: 2, Original: 8, Cancelled: 5}, used(a, 6, 10, 0), used(b, 6, 10, 0))
	cancels(t, v, two, 1, 3, api.DocLine{Node: 2, Original: 8, Cancelled: 8}, used(a, 6, 7, 0), used(b, 6, 7, 0))
	noCancel(t, v, two, 1, 1, api.ErrState)
	cancels(t, v, one, 0, 6, api.DocLine{Node: 2, Original: 10, Cancelled: 10}, used(a, 0, 7, 0), used(b, 0, 7, 0))

	n := node(1, 0, 10, true)
	v = with(t, n)
	one = reserved(t, v, api.DocPre, 1, 10)
	two, _, err := enc.New(v, 2020, one, []api.Line{{Amount: 7}})
	right(t, err)
	_, _, err = exp.New(v, 2020, two, []api.Line{{Amount: 4}})
	right(t, err)
	noCancel(t, v, one, 0, 4, api.ErrState)
	cancels(t, v, one, 0, 3, api.DocLine{Node: 1, Original: 10, Liquidated: 7, Cancelled: 3}, used(n, 0, 3, 4))
	noCancel(t, v, two, 0, 4, api.ErrState)
	cancels(t, v, two, 0, 2, api.DocLine{Node: 1, Original: 7, Liquidated: 4, Cancelled: 2}, used(n, 0, 1, 4))
}

// P34.3: what is cancelled is cancelled also where more is used than the limit, and without asking it.
func TestCancelLimit(t *testing.T) {
	for _, absolute := range []bool{false, true} {
		n := node(1, 0, 10, absolute)
		v := with(t, n)
		id := reserved(t, v, api.DocPre, 1, 10)
		n.Limit = 2
		stand(t, v, used(n, 10, 0, 0))
		cancels(t, v, id, 0, 1, api.DocLine{Node: 1, Original: 10, Cancelled: 1}, used(n, 9, 0, 0))
	}
	n := node(1, 0, bound, true)
	v := with(t, n)
	id := reserved(t, v, api.DocEnc, 1, mostAmount)
	cancels(t, v, id, 0, mostAmount, api.DocLine{Node: 1, Original: mostAmount, Cancelled: mostAmount}, n)
}

// P34.3: the errors in their order.
func TestCancelErrors(t *testing.T) {
	n := node(1, 0, 100, true)
	v := with(t, n, node(2, 0, 100, true), node(3, 2, 100, true))
	one, two, three := reserved(t, v, api.DocPre, 1, 10, 3, 10), reserved(t, v, api.DocEnc, 1, 10), reserved(t, v, api.DocExp, 1, 10)
	closed, err := docs.Put(v, api.Doc{Kind: api.DocPre, Year: 2019}, []api.DocLine{{Node: 1, Original: 10}})
	right(t, err)
	gone, err := docs.Put(v, api.Doc{Kind: api.DocExp, Year: 2018}, []api.DocLine{{Node: 1, Original: 10}})
	right(t, err)
	lost, err := docs.Put(v, api.Doc{Kind: api.DocEnc, Year: 2020}, []api.DocLine{{Node: 9, Original: 10}})
	right(t, err)
	broken := reserved(t, v, api.DocPre, 1, 10, 1, 10)
	v.Delete(recs.DocLine(broken, 1, api.DocLine{}).Key)
	for _, c := range []struct {
		doc, line, amount int
		want              api.Errno
	}{
		{one, 0, 0, api.ErrArg}, {one, 0, -1, api.ErrArg}, {one, 0, mostAmount + 1, api.ErrArg}, {one, 0, math.MinInt, api.ErrArg}, {one, 0, math.MaxInt, api.ErrArg}, {99, 0, 0, api.ErrArg}, {closed, 0, 0, api.ErrArg}, {three, 0, 0, api.ErrArg},
		{99, 0, 1, api.ErrNone}, {0, 0, 1, api.ErrNone}, {-1, 0, 1, api.ErrNone}, {1<<32 + one, 0, 1, api.ErrNone}, {math.MinInt, 0, 1, api.ErrNone}, {broken, 0, 1, api.ErrNone},
		{one, 2, 1, api.ErrNone}, {one, -1, 1, api.ErrNone}, {two, 1, 1, api.ErrNone}, {three, 1, 1, api.ErrNone}, {closed, 1, 1, api.ErrNone}, {one, top, 1, api.ErrNone}, {one, 1 << 32, 1, api.ErrNone}, {one, math.MinInt, 1, api.ErrNone}, {one, math.MaxInt, 1, api.ErrNone},
		{closed, 0, 1, api.ErrClosed}, {closed, 0, 11, api.ErrClosed}, {gone, 0, 1, api.ErrNone}, {gone, 0, 11, api.ErrNone},
		{three, 0, 1, api.ErrState}, {three, 0, 11, api.ErrState}, {one, 0, 11, api.ErrState}, {one, 0, mostAmount, api.ErrState}, {two, 0, 11, api.ErrState}, {lost, 0, 11, api.ErrState},
		{lost, 0, 1, api.ErrNone}, {lost, 0, 10, api.ErrNone},
	} {
		noCancel(t, v, c.doc, c.line, c.amount, c.want)
	}
	// An expenditure has nothing to cancel, even if its line were open.
	right(t, docs.Set(v, three, 0, api.DocLine{Node: 1, Original: 10}))
	noCancel(t, v, three, 0, 1, api.ErrState)
	// Figures of the nodes that may not be, of the node itself, and above it.
	stand(t, v, used(n, 9, 9, 10))
	noCancel(t, v, one, 0, 10, api.ErrRange)
	noCancel(t, v, two, 0, 10, api.ErrRange)
	noCancel(t, v, one, 0, 11, api.ErrState)
	stand(t, v, used(node(2, 0, 100, true), 10, 0, -1))
	noCancel(t, v, one, 1, 10, api.ErrRange)
	stand(t, v, used(node(2, 0, bound+1, true), 10, 0, 0))
	noCancel(t, v, one, 1, 9, api.ErrLimit)
}

// P34.3: lines that no command makes: what is open is told of all their numbers, and of another kind nothing is taken off the node.
func TestCancelLines(t *testing.T) {
	n := used(node(1, 0, 100, true), 20, 20, 20)
	for _, kind := range []int{api.DocPre, api.DocEnc, 0, 4, -1, math.MinInt, math.MaxInt} {
		v := with(t, n)
		id, err := docs.Put(v, api.Doc{Kind: kind, Year: 2020}, []api.DocLine{{Node: 1, Original: 5, Liquidated: -7, Cancelled: 3}, {Node: 1, Original: 5, Liquidated: 7, Cancelled: -3}, {Node: 1}})
		right(t, err)
		now := n
		switch kind {
		case api.DocPre:
			now.Pre -= 9
		case api.DocEnc:
			now.Enc -= 9
		}
		noCancel(t, v, id, 0, 10, api.ErrState)
		noCancel(t, v, id, 1, 2, api.ErrState)
		noCancel(t, v, id, 2, 1, api.ErrState)
		cancels(t, v, id, 0, 9, api.DocLine{Node: 1, Original: 5, Liquidated: -7, Cancelled: 12}, now)
	}
}

// plan is a year's budget in a table, with documents of one line.
type plan struct {
	nodes []api.Node
	docs  []api.DocLine
	kinds []int
}

func (p *plan) clone() *plan {
	return &plan{slices.Clone(p.nodes), slices.Clone(p.docs), slices.Clone(p.kinds)}
}

// at answers a node's place in the table; -1, if it isn't there.
func (p *plan) at(id int) int {
	return slices.IndexFunc(p.nodes, func(n api.Node) bool { return n.ID == id })
}

// depth is how many nodes a path has.
func (p *plan) depth(id int) int {
	if p.at(id) < 0 {
		return 0
	}
	return 1 + p.depth(p.nodes[p.at(id)].Parent)
}

// below are the limits of a node's kids together.
func (p *plan) below(id int) int {
	sum := 0
	for _, n := range p.nodes {
		if n.Parent == id {
			sum += n.Limit
		}
	}
	return sum
}

func (p *plan) make(n api.Node) api.Errno {
	above := p.at(n.Parent)
	switch {
	case n.Parent != 0 && above < 0:
		return api.ErrNone
	case p.at(n.ID) >= 0:
		return api.ErrTwice
	case p.depth(n.Parent) >= maxTree:
		return api.ErrArg
	case n.Parent != 0 && p.below(n.Parent)+n.Limit > p.nodes[above].Limit:
		return api.ErrLimit
	}
	p.nodes = append(p.nodes, n)
	return api.OK
}

func (p *plan) set(id, limit int) (bool, api.Errno) {
	n := &p.nodes[p.at(id)]
	sum := n.Pre + n.Enc + n.Exp
	switch {
	case limit < 0:
		return false, api.ErrRange
	case p.below(id) > limit || n.Absolute && sum > limit:
		return false, api.ErrLimit
	}
	n.Limit = limit
	return sum > limit, api.OK
}

func (p *plan) amend(id, more int) (bool, api.Errno) {
	if p.at(id) < 0 {
		return false, api.ErrNone
	}
	n := p.nodes[p.at(id)]
	if above := p.at(n.Parent); above >= 0 && p.below(n.Parent)+more > p.nodes[above].Limit {
		return false, api.ErrLimit
	}
	return p.set(id, n.Limit+more)
}

func (p *plan) move(from, to, amount int) (bool, api.Errno) {
	switch {
	case from == to:
		return false, api.ErrArg
	case p.at(from) < 0 || p.at(to) < 0:
		return false, api.ErrNone
	}
	a, b := p.nodes[p.at(from)], p.nodes[p.at(to)]
	if a.Parent != b.Parent {
		return false, api.ErrState
	}
	one, err := p.set(from, a.Limit-amount)
	if err != api.OK {
		return false, err
	}
	two, err := p.set(to, b.Limit+amount)
	return one || two, err
}

// charge lets a node and those above it grow.
func (p *plan) charge(id, kind, more int) {
	for at := p.at(id); at >= 0; at = p.at(p.nodes[at].Parent) {
		switch n := &p.nodes[at]; kind {
		case api.DocPre:
			n.Pre += more
		case api.DocEnc:
			n.Enc += more
		case api.DocExp:
			n.Exp += more
		}
	}
}

func (p *plan) cancel(doc, amount int) api.Errno {
	if doc < 1 || doc > len(p.docs) {
		return api.ErrNone
	}
	x, kind := &p.docs[doc-1], p.kinds[doc-1]
	if kind == api.DocExp || x.Original-x.Cancelled < amount {
		return api.ErrState
	}
	x.Cancelled += amount
	p.charge(x.Node, kind, -amount)
	return api.OK
}

// holds looks that a view has just this budget, and these documents' lines, and that nodes below one have together no more than it.
func (p *plan) holds(t *testing.T, v *view.View) {
	t.Helper()
	want := slices.Clone(p.nodes)
	slices.SortFunc(want, func(a, b api.Node) int { return a.ID - b.ID })
	if got := tree.All(v, 2020); !slices.Equal(got, want) {
		t.Errorf("the nodes are %v, not %v", got, want)
	}
	for i, x := range p.docs {
		if _, l, ok := docs.Get(v, i+1); !ok || !slices.Equal(l, []api.DocLine{x}) {
			t.Errorf("document %d is of %v, not %v", i+1, l, x)
		}
	}
	for _, n := range want {
		if p.below(n.ID) > n.Limit {
			t.Errorf("below %v there is %d", n, p.below(n.ID))
		}
	}
}

// P34.1, P34.2, P34.3, P34.4: long lives on a disk, held against tables.
func TestMany(t *testing.T) {
	done := map[int]int{}
	count := func(call int, err api.Errno, warned bool) {
		if warned {
			err = api.Warned
		}
		done[100*call+int(err)]++
	}
	for seed := range 10 {
		d, _ := disk.New(901)
		k, err := kv.Format(d)
		right(t, err)
		v := view.New(k)
		begin(t, v)
		now := &plan{}
		rand := uint32(seed + 1)
		next := func(n int) int {
			rand = rand*1664525 + 1013904223
			return int(rand>>8) % n
		}
		for range 450 {
			right(t, v.Commit())
			after := now.clone()
			var warned, warns bool
			var got, want api.Errno
			call := next(5)
			switch call {
			case 0:
				// Of three new nodes in four the parent is the one made last, so that paths grow long.
				n := node(1+next(20), next(20)*next(2), 200+next(100), next(2) == 0)
				if l := len(now.nodes); l > 0 && next(4) > 0 {
					n.Parent = now.nodes[l-1].ID
				}
				if above := now.at(n.Parent); above >= 0 {
					n.Limit = now.nodes[above].Limit / (1 + next(3)*next(2))
				}
				want = after.make(n)
				got = New(v, used(n, 5, 6, 7))
			case 1:
				id, more := 1+next(22), next(160)-80
				warns, want = after.amend(id, more)
				warned, got = Amend(v, 2020, id, more)
			case 2:
				from, to, sum := 1+next(22), 1+next(22), 1+next(18)*(1+next(18))
				if l := len(now.nodes); l > 0 {
					from = now.nodes[next(l)].ID
					// One that has the same parent, if there is another.
					if other := now.nodes[next(l)]; other.Parent == now.nodes[now.at(from)].Parent {
						to = other.ID
					}
				}
				warns, want = after.move(from, to, sum)
				warned, got = Move(v, 2020, from, to, sum)
			case 3:
				kind, id, sum := 1+next(3), 1+next(20), 1+next(60)
				if after.at(id) < 0 || !allowed(v, id, sum) {
					continue
				}
				reserved(t, v, kind, id, sum)
				x := api.DocLine{Node: id, Original: sum}
				if kind == api.DocExp {
					x.Liquidated = sum
				}
				after.docs, after.kinds = append(after.docs, x), append(after.kinds, kind)
				after.charge(id, kind, sum)
			case 4:
				doc, sum := next(len(now.docs)+2), 1+next(40)
				want = after.cancel(doc, sum)
				got = Cancel(v, doc, 0, sum)
			}
			count(call, want, warns)
			if got != want || warned != warns {
				t.Fatalf("call %d: %d, %t, not %d, %t", call, got, warned, want, warns)
			}
			if want != api.OK {
				v.Abort()
				after = now
			}
			now = after
			now.holds(t, v)
		}
	}
	for _, what := range []int{0, 7, 8, 1, 11, 100, 107, 111, 109, 115, 200, 201, 207, 209, 211, 212, 215, 300, 400, 407, 412} {
		if done[what] == 0 {
			t.Errorf("nothing was done of %d: %v", what, done)
		}
	}
}

// allowed tells whether a node and those above it allow a sum.
func allowed(v *view.View, id, sum int) bool {
	for _, n := range tree.Path(v, 2020, id) {
		if n.Absolute && tree.Used(n)+sum > n.Limit {
			return false
		}
	}
	return true
}

// P34.1, P34.2, P34.3: the view is changed, and nothing below it till its Commit.
func TestOnDisk(t *testing.T) {
	d, _ := disk.New(201)
	k, err := kv.Format(d)
	right(t, err)
	v := view.New(k)
	begin(t, v)
	was := v.Scan(nil)
	right(t, v.Commit())
	a, b := node(1, 0, 10, true), node(2, 0, 20, false)
	makes(t, v, a, api.OK)
	has(t, view.New(k), was)
	v.Abort()
	has(t, v, was)
	makes(t, v, a, api.OK)
	makes(t, v, b, api.OK)
	right(t, v.Commit())
	has(t, view.New(k), was, a, b)
	amends(t, v, 1, 5, false, limited(a, 15))
	moves(t, v, 20, false, limited(b, 0), limited(a, 35))
	has(t, view.New(k), was, a, b)
	v.Abort()
	has(t, v, was, a, b)
	id := reserved(t, v, api.DocPre, 1, 4)
	right(t, v.Commit())
	cancels(t, v, id, 0, 4, api.DocLine{Node: 1, Original: 4, Cancelled: 4}, a)
	moves(t, v, 10, false, limited(a, 0), limited(b, 30))
	right(t, v.Commit())
	if n, there := tree.Get(view.New(k), 2020, 2); !there || n != limited(b, 30) {
		t.Errorf("the node is %v", n)
	}

	// In a view whose store met an error there is no year, and no document.
	d.Arm(0)
	d.Write(0, make([]byte, api.Sector))
	if err := New(v, node(3, 0, 10, true)); err != api.ErrNone {
		t.Errorf("New: %d", err)
	}
	if warned, err := Amend(v, 2020, 1, 5); warned || err != api.ErrNone {
		t.Errorf("Amend: %t, %d", warned, err)
	}
	if warned, err := Move(v, 2020, 2, 1, 5); warned || err != api.ErrNone {
		t.Errorf("Move: %t, %d", warned, err)
	}
	if err := Cancel(v, id, 0, 1); err != api.ErrNone {
		t.Errorf("Cancel: %d", err)
	}
	if err := v.Err(); err != api.ErrDown {
		t.Errorf("Err: %d", err)
	}
}

// P34.1, P34.2, P34.3, R5: in a view that no call made there is no year, and no document.
func TestNoView(t *testing.T) {
	for _, v := range []*view.View{nil, {}} {
		makes(t, v, node(1, 0, 10, true), api.ErrNone)
		makes(t, v, api.Node{}, api.ErrNone)
		noAmend(t, v, 2020, 1, 5, api.ErrNone)
		noAmend(t, v, 2020, 1, mostAmount+1, api.ErrNone)
		noMove(t, v, 2020, 1, 2, 5, api.ErrNone)
		noMove(t, v, 2020, 1, 1, 0, api.ErrNone)
		noCancel(t, v, 1, 0, 5, api.ErrNone)
		noCancel(t, v, 1, 0, 0, api.ErrArg)
	}
}
