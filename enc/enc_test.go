package enc

import (
	"bytes"
	"math"
	"slices"
	"testing"

	"exchequer/api"
	"exchequer/disk"
	"exchequer/docs"
	"exchequer/field"
	"exchequer/keys"
	"exchequer/kv"
	"exchequer/pre"
	"exchequer/recs"
	"exchequer/tree"
	"exchequer/view"
	"exchequer/years"
)

const (
	top = 1<<32 - 1
	// mostLines, most and bound are MaxLines, MaxAmount and 2^60, written out.
	mostLines = 6
	most      = 9007199254740992
	bound     = 1152921504606846976
)

// node is one of 2020 with a limit; of the other numbers each is known from the others.
func node(id, parent, limit int, absolute bool) api.Node {
	return api.Node{Year: 2020, ID: id, Parent: parent, Fund: 100 + id, Object: 5000 + id, Absolute: absolute, Limit: limit, Lapsed: 70 + id, Carried: 80 + id}
}

// grown is a node with more pre-encumbered, and more encumbered.
func grown(n api.Node, pre, enc int) api.Node {
	n.Pre += pre
	n.Enc += enc
	return n
}

// with is a view in which 2020 is open, and has these nodes.
func with(t *testing.T, l ...api.Node) *view.View {
	t.Helper()
	v := view.New(nil)
	if err := years.Open(v, 2020); err != api.OK {
		t.Fatalf("Open: %d", err)
	}
	stand(t, v, l...)
	return v
}

func stand(t *testing.T, v *view.View, l ...api.Node) {
	t.Helper()
	for _, n := range l {
		if err := tree.Put(v, n); err != api.OK {
			t.Fatalf("Put %v: %d", n, err)
		}
	}
}

// count lets a document's ID be the last one that was given out.
func count(t *testing.T, v *view.View, last int) {
	t.Helper()
	if err := v.Put(keys.Key('S', 2), field.Pack(last)); err != api.OK {
		t.Fatalf("Put: %d", err)
	}
}

// of are lines of a command: nodes, or places of lines, with their amounts.
func of(nums ...int) []api.Line {
	var l []api.Line
	for at := 0; at < len(nums); at += 2 {
		l = append(l, api.Line{Node: nums[at], Amount: nums[at+1]})
	}
	return l
}

// many are n lines of amounts that may be.
func many(n int) []api.Line {
	var l []api.Line
	for i := range n {
		l = append(l, api.Line{Node: 1, Amount: 1 + i})
	}
	return l
}

// fresh are lines of a document of which nothing is liquidated yet.
func fresh(nums ...int) []api.DocLine {
	var l []api.DocLine
	for _, x := range of(nums...) {
		l = append(l, api.DocLine{Node: x.Node, Original: x.Amount})
	}
	return l
}

// whole is a document as it stands, with its lines.
func whole(d api.Doc, l []api.DocLine) []api.Pair {
	d.Lines = len(l)
	all := []api.Pair{recs.Doc(d)}
	for line, x := range l {
		all = append(all, recs.DocLine(d.ID, line, x))
	}
	return all
}

func byKey(a, b api.Pair) int { return bytes.Compare(a.Key, b.Key) }

func samePair(a, b api.Pair) bool {
	return bytes.Equal(a.Key, b.Key) && bytes.Equal(a.Value, b.Value)
}

func samePairs(a, b []api.Pair) bool {
	return slices.EqualFunc(a, b, samePair)
}

// has looks that just these pairs, in any order, stand in a view, and just these nodes, 2020, and the last ID.
func has(t *testing.T, v *view.View, last int, made []api.Pair, nodes ...api.Node) {
	t.Helper()
	want := slices.Clone(made)
	want = append(want, api.Pair{Key: keys.Key('Y', 2020), Value: field.Pack(api.YearOpen)})
	if last != 0 {
		want = append(want, api.Pair{Key: keys.Key('S', 2), Value: field.Pack(last)})
	}
	for _, n := range nodes {
		want = append(want, recs.Node(n))
	}
	slices.SortFunc(want, byKey)
	if got := v.Scan(nil); !samePairs(got, want) {
		t.Errorf("there stand %v, not %v", got, want)
	}
}

// holding is a view with this document alone, and its ID.
func holding(t *testing.T, kind, year int, l ...api.DocLine) (*view.View, int) {
	t.Helper()
	v := view.New(nil)
	id, err := docs.Put(v, api.Doc{Kind: kind, Year: year, From: 5}, l)
	if err != api.OK {
		t.Fatalf("Put: %d", err)
	}
	return v, id
}

// tells looks for a document's lines.
func tells(t *testing.T, v *view.View, id int, want ...api.DocLine) {
	t.Helper()
	if _, l, ok := docs.Get(v, id); !ok || !slices.Equal(l, want) {
		t.Errorf("the document is of %v, not %v", l, want)
	}
}

func take(t *testing.T, v *view.View, kind, year, from int, l []api.Line, want ...api.DocLine) {
	t.Helper()
	if got, err := Take(v, kind, year, from, l); !slices.Equal(got, want) || err != api.OK {
		t.Errorf("Take %d %d %d %v: %v, %d, not %v", kind, year, from, l, got, err, want)
	}
}

// kept looks that a Take is refused, and that nothing is changed by it.
func kept(t *testing.T, v *view.View, kind, year, from int, l []api.Line, want api.Errno) {
	t.Helper()
	before := v.Scan(nil)
	if got, err := Take(v, kind, year, from, l); len(got) != 0 || err != want {
		t.Errorf("Take %d %d %d %v: %v, %d, not %d", kind, year, from, l, got, err, want)
	}
	if !samePairs(v.Scan(nil), before) {
		t.Errorf("behind Take %d %d %d %v there stand %v, not %v", kind, year, from, l, v.Scan(nil), before)
	}
}

// encumber looks what is answered of lines in 2020.
func encumber(t *testing.T, v *view.View, from int, l []api.Line, want int, wantWarned bool) {
	t.Helper()
	if id, warned, err := New(v, 2020, from, l); id != want || warned != wantWarned || err != api.OK {
		t.Errorf("New from %d %v: %d, %t, %d, not %d, %t", from, l, id, warned, err, want, wantWarned)
	}
}

// refused looks that an encumbrance is.
func refused(t *testing.T, v *view.View, year, from int, l []api.Line, want api.Errno) {
	t.Helper()
	if id, warned, err := New(v, year, from, l); id != 0 || warned || err != want {
		t.Errorf("New %d from %d %v: %d, %t, %d, not %d", year, from, l, id, warned, err, want)
	}
}

// untouched looks that one is refused, and that nothing is changed by it.
func untouched(t *testing.T, v *view.View, year, from int, l []api.Line, want api.Errno) {
	t.Helper()
	before := v.Scan(nil)
	refused(t, v, year, from, l, want)
	if got := v.Scan(nil); !samePairs(got, before) {
		t.Errorf("behind New %d from %d %v there stand %v, not %v", year, from, l, got, before)
	}
}

func reserve(t *testing.T, v *view.View, l []api.Line, want int) {
	t.Helper()
	if id, _, err := pre.New(v, 2020, l); id != want || err != api.OK {
		t.Fatalf("pre.New %v: %d, %d, not %d", l, id, err, want)
	}
}

// P32.1: amounts are taken out of just the lines that are named, and told with their nodes.
func TestTake(t *testing.T) {
	a := api.DocLine{Node: 7, Original: 20, Liquidated: 4, Cancelled: 3}
	b, c := api.DocLine{Node: 9, Original: 10}, api.DocLine{Node: 7, Original: 5, Cancelled: 5}
	v, id := holding(t, api.DocPre, 2020, a, b, c)
	other, _ := docs.Put(v, api.Doc{Kind: api.DocPre, Year: 2020}, []api.DocLine{a, b, c})
	take(t, v, api.DocPre, 2020, id, of(1, 6), fresh(9, 6)...)
	b.Liquidated = 6
	tells(t, v, id, a, b, c)
	take(t, v, api.DocPre, 2020, id, of(1, 3, 0, 13), fresh(9, 3, 7, 13)...)
	a.Liquidated, b.Liquidated = 17, 9
	tells(t, v, id, a, b, c)
	take(t, v, api.DocPre, 2020, id, of(1, 1), fresh(9, 1)...)
	b.Liquidated = 10
	want := whole(api.Doc{ID: id, Kind: api.DocPre, Year: 2020, From: 5}, []api.DocLine{a, b, c})
	want = append(want, whole(api.Doc{ID: other, Kind: api.DocPre, Year: 2020}, []api.DocLine{{Node: 7, Original: 20, Liquidated: 4, Cancelled: 3}, {Node: 9, Original: 10}, c})...)
	want = append(want, api.Pair{Key: keys.Key('S', 2), Value: field.Pack(2)})
	slices.SortFunc(want, byKey)
	if got := v.Scan(nil); !samePairs(got, want) {
		t.Errorf("there stand %v, not %v", got, want)
	}
}

// P32.1: a line may be named more than once; what is open of it counts for all of it together.
func TestTakeTwice(t *testing.T) {
	v, id := holding(t, api.DocEnc, 2020, fresh(7, 10, 8, 10)...)
	kept(t, v, api.DocEnc, 2020, id, of(0, 6, 0, 5), api.ErrState)
	kept(t, v, api.DocEnc, 2020, id, of(0, 4, 1, 1, 0, 4, 1, 1, 0, 3), api.ErrState)
	take(t, v, api.DocEnc, 2020, id, of(0, 4, 1, 1, 0, 4, 1, 2, 0, 2), fresh(7, 4, 8, 1, 7, 4, 8, 2, 7, 2)...)
	tells(t, v, id, api.DocLine{Node: 7, Original: 10, Liquidated: 10}, api.DocLine{Node: 8, Original: 10, Liquidated: 3})
}

// P32.1: of a line Fund and Object count for nothing.
func TestTakeOthers(t *testing.T) {
	v, id := holding(t, api.DocPre, 2020, fresh(7, 10, 8, 10)...)
	take(t, v, api.DocPre, 2020, id, []api.Line{{Fund: 1, Object: math.MinInt, Node: 0, Amount: 3}, {Fund: -1, Object: 9, Node: 1, Amount: 4}}, fresh(7, 3, 8, 4)...)
	tells(t, v, id, api.DocLine{Node: 7, Original: 10, Liquidated: 3}, api.DocLine{Node: 8, Original: 10, Liquidated: 4})
}

// P32.1: any kind and year will do, also of a year that is not there; without lines nothing is taken.
func TestTakeAny(t *testing.T) {
	for _, n := range []int{0, 1, 2, 3, 2020, -1, 1 << 32, math.MinInt, math.MaxInt} {
		v, id := holding(t, n, n-1, fresh(7, 10)...)
		take(t, v, n, n-1, id, of(0, 4), fresh(7, 4)...)
		take(t, v, n, n-1, id, nil)
		take(t, v, n, n-1, id, []api.Line{})
		tells(t, v, id, api.DocLine{Node: 7, Original: 10, Liquidated: 4})
	}
}

// P32.1: Take asks of amounts no more than that they are not above what is open, and takes as many lines as come.
func TestTakeAmounts(t *testing.T) {
	v, id := holding(t, api.DocPre, 2020, api.DocLine{Node: 7, Original: 10, Liquidated: 10})
	take(t, v, api.DocPre, 2020, id, of(0, 0), fresh(7, 0)...)
	kept(t, v, api.DocPre, 2020, id, of(0, 1), api.ErrState)
	take(t, v, api.DocPre, 2020, id, of(0, -4, 0, 3), fresh(7, -4, 7, 3)...)
	tells(t, v, id, api.DocLine{Node: 7, Original: 10, Liquidated: 9})
	kept(t, v, api.DocPre, 2020, id, of(0, math.MaxInt), api.ErrState)

	v, id = holding(t, api.DocPre, 2020, fresh(7, bound)...)
	take(t, v, api.DocPre, 2020, id, of(0, most), fresh(7, most)...)
	take(t, v, api.DocPre, 2020, id, of(0, bound-most), fresh(7, bound-most)...)
	tells(t, v, id, api.DocLine{Node: 7, Original: bound, Liquidated: bound})

	v, id = holding(t, api.DocPre, 2020, fresh(7, 500)...)
	var l []api.Line
	for range 100 {
		l = append(l, of(0, 5)...)
	}
	if got, err := Take(v, api.DocPre, 2020, id, l); len(got) != 100 || err != api.OK {
		t.Errorf("Take of 100 lines: %d, %d", len(got), err)
	}
	tells(t, v, id, api.DocLine{Node: 7, Original: 500, Liquidated: 500})
}

// P32.1: what a line has open is told of all its numbers.
func TestTakeOpen(t *testing.T) {
	for _, c := range []struct {
		x    api.DocLine
		open int
	}{
		{api.DocLine{}, 0}, {api.DocLine{Original: 5}, 5}, {api.DocLine{Original: 5, Liquidated: 2, Cancelled: 1}, 2},
		{api.DocLine{Original: 5, Liquidated: 5}, 0}, {api.DocLine{Original: 5, Cancelled: 5}, 0}, {api.DocLine{Original: 5, Cancelled: 4}, 1},
		{api.DocLine{Original: 5, Liquidated: 7}, -2}, {api.DocLine{Original: 5, Liquidated: -7}, 12},
	} {
		v, id := holding(t, api.DocPre, 2020, c.x)
		for _, more := range []int{1, 2, 100, most, bound} {
			kept(t, v, api.DocPre, 2020, id, of(0, c.open+more), api.ErrState)
		}
		take(t, v, api.DocPre, 2020, id, of(0, c.open), fresh(0, c.open)...)
		c.x.Liquidated += c.open
		tells(t, v, id, c.x)
	}
}

// P32.1: ErrNone of a document that is not there, whatever else is asked, with the chapter's example.
func TestTakeNone(t *testing.T) {
	v, _ := holding(t, api.DocPre, 2020, fresh(7, 10)...)
	for _, from := range []int{0, 2, -1, top, 1<<32 + 1, 1 - 1<<32, math.MinInt, math.MaxInt} {
		for _, l := range [][]api.Line{nil, of(0, 1), of(9, 1), of(0, 11)} {
			for _, kind := range []int{api.DocPre, api.DocEnc, 0} {
				kept(t, v, kind, 2020, from, l, api.ErrNone)
				kept(t, v, kind, 2021, from, l, api.ErrNone)
			}
		}
	}
	// Without one of its lines it is none.
	v, id := holding(t, api.DocPre, 2020, fresh(7, 10, 8, 10)...)
	v.Delete(keys.Key('L', id, 1))
	kept(t, v, api.DocPre, 2020, id, of(0, 1), api.ErrNone)
	kept(t, v, api.DocEnc, 2020, id, nil, api.ErrNone)
}

// P32.1: ErrState of another kind, or year, whatever the lines are.
func TestTakeState(t *testing.T) {
	for _, kind := range []int{api.DocPre, api.DocEnc, api.DocExp} {
		v, id := holding(t, kind, 2020, fresh(7, 10)...)
		for _, l := range [][]api.Line{nil, of(0, 1), of(9, 1), of(0, 11)} {
			for _, other := range []int{0, 1, 2, 3, 4, -kind, 1<<32 + kind, math.MinInt, math.MaxInt} {
				if other != kind {
					kept(t, v, other, 2020, id, l, api.ErrState)
				}
			}
			for _, year := range []int{0, 2019, 2021, -2020, 1<<32 + 2020, math.MinInt, math.MaxInt} {
				kept(t, v, kind, year, id, l, api.ErrState)
			}
		}
	}
}

// P32.1: ErrNone of a line that the document hasn't, also if one stands there.
func TestTakePlaces(t *testing.T) {
	for n := 1; n <= mostLines; n++ {
		var l []api.DocLine
		for range n {
			l = append(l, api.DocLine{Node: 7, Original: 10})
		}
		v, id := holding(t, api.DocPre, 2020, l...)
		for _, place := range []int{n, top} {
			p := recs.DocLine(id, place, api.DocLine{Node: 7, Original: 10})
			if err := v.Put(p.Key, p.Value); err != api.OK {
				t.Fatalf("Put: %d", err)
			}
		}
		for _, place := range []int{n, n + 1, mostLines, mostLines + 1, top, -1, -n, -1 << 32, 1 << 32, math.MinInt, math.MaxInt} {
			kept(t, v, api.DocPre, 2020, id, of(place, 1), api.ErrNone)
			kept(t, v, api.DocPre, 2020, id, of(0, 1, place, 1), api.ErrNone)
		}
		for place := range n {
			take(t, v, api.DocPre, 2020, id, of(place, 1), fresh(7, 1)...)
		}
	}
}

// P32.1, R1: the first line with an error tells it, and it changes nothing of those ahead of it.
func TestTakeOrder(t *testing.T) {
	v, id := holding(t, api.DocPre, 2020, fresh(7, 10, 8, 10)...)
	kept(t, v, api.DocPre, 2020, id, of(0, 11, 2, 1), api.ErrState)
	kept(t, v, api.DocPre, 2020, id, of(2, 1, 0, 11), api.ErrNone)
	kept(t, v, api.DocPre, 2020, id, of(2, 11), api.ErrNone)
	kept(t, v, api.DocPre, 2020, id, of(0, 10, 1, 10, 2, 0), api.ErrNone)
	kept(t, v, api.DocPre, 2020, id, of(0, 10, 1, 11), api.ErrState)
	take(t, v, api.DocPre, 2020, id, of(0, 10, 1, 10), fresh(7, 10, 8, 10)...)
}

// P32.2: without a document to go over from, the nodes have more encumbered.
func TestNew(t *testing.T) {
	a, b, c, d := node(1, 0, 900, true), node(2, 1, 400, true), node(3, 1, 300, false), node(4, 2, 100, true)
	v := with(t, a, b, c, d)
	encumber(t, v, 0, of(4, 7), 1, false)
	one := whole(api.Doc{ID: 1, Kind: 2, Year: 2020}, fresh(4, 7))
	has(t, v, 1, one, grown(a, 0, 7), grown(b, 0, 7), c, grown(d, 0, 7))
	encumber(t, v, 0, of(2, 10, 3, 20, 1, 30, 2, 10), 2, false)
	both := append(one, whole(api.Doc{ID: 2, Kind: 2, Year: 2020}, fresh(2, 10, 3, 20, 1, 30, 2, 10))...)
	has(t, v, 2, both, grown(a, 0, 77), grown(b, 0, 27), grown(c, 0, 20), grown(d, 0, 7))
	// Of a line Fund and Object count for nothing.
	encumber(t, v, 0, []api.Line{{Fund: 2, Object: -9, Node: 4, Amount: 5}}, 3, false)
	tells(t, v, 3, fresh(4, 5)...)
}

// P32.2: what goes over is liquidated, and no longer pre-encumbered; with the document's fourth example.
func TestNewFrom(t *testing.T) {
	n := node(1, 0, 10, true)
	v := with(t, n)
	reserve(t, v, of(1, 10), 1)
	encumber(t, v, 1, of(0, 7), 2, false)
	made := whole(api.Doc{ID: 1, Kind: 1, Year: 2020}, []api.DocLine{{Node: 1, Original: 10, Liquidated: 7}})
	made = append(made, whole(api.Doc{ID: 2, Kind: 2, Year: 2020, From: 1}, fresh(1, 7))...)
	has(t, v, 2, made, grown(n, 3, 7))
	untouched(t, v, 2020, 1, of(0, 4), api.ErrState)
	encumber(t, v, 1, of(0, 3), 3, false)
	tells(t, v, 1, api.DocLine{Node: 1, Original: 10, Liquidated: 10})
	untouched(t, v, 2020, 1, of(0, 1), api.ErrState)
}

// P32.2: lines are named by their places, and their nodes, with those above, are charged.
func TestNewFromLines(t *testing.T) {
	a, b, c := node(5, 0, 100, true), node(6, 5, 60, true), node(7, 5, 40, false)
	v := with(t, a, b, c)
	reserve(t, v, of(6, 20, 7, 30, 6, 10), 1)
	encumber(t, v, 1, of(2, 10, 0, 5, 1, 8, 0, 6), 2, false)
	made := whole(api.Doc{ID: 1, Kind: 1, Year: 2020}, []api.DocLine{{Node: 6, Original: 20, Liquidated: 11}, {Node: 7, Original: 30, Liquidated: 8}, {Node: 6, Original: 10, Liquidated: 10}})
	made = append(made, whole(api.Doc{ID: 2, Kind: 2, Year: 2020, From: 1}, fresh(6, 10, 6, 5, 7, 8, 6, 6))...)
	has(t, v, 2, made, grown(a, 31, 29), grown(b, 9, 21), grown(c, 22, 8))
}

// P32.2: IDs rise, and go on from the last one of any document.
func TestNewIDs(t *testing.T) {
	v := with(t, node(1, 0, bound, false))
	for id := 1; id <= 20; id++ {
		encumber(t, v, 0, many(1+id%mostLines), id, false)
	}
	count(t, v, 76)
	reserve(t, v, of(1, 50), 77)
	encumber(t, v, 77, of(0, 5), 78, false)
	count(t, v, top-1)
	encumber(t, v, 77, of(0, 5), top, false)
	tells(t, v, top, fresh(1, 5)...)
}

// P32.2, P32.3: beyond a limit nothing is encumbered of an absolute node, but what was pre-encumbered goes over all the same, and without a warning.
func TestNewLimit(t *testing.T) {
	for _, absolute := range []bool{false, true} {
		a, b := node(1, 0, 30, absolute), node(2, 1, 30, absolute)
		v := with(t, a, b)
		reserve(t, v, of(2, 30), 1)
		// Less is budgeted now than was pre-encumbered.
		a, b = grown(a, 30, 0), grown(b, 30, 0)
		a.Limit, b.Limit = 5, 5
		stand(t, v, a, b)
		encumber(t, v, 1, of(0, 30), 2, false)
		made := whole(api.Doc{ID: 1, Kind: 1, Year: 2020}, []api.DocLine{{Node: 2, Original: 30, Liquidated: 30}})
		made = append(made, whole(api.Doc{ID: 2, Kind: 2, Year: 2020, From: 1}, fresh(2, 30))...)
		a, b = grown(a, -30, 30), grown(b, -30, 30)
		has(t, v, 2, made, a, b)
		if absolute {
			untouched(t, v, 2020, 0, of(2, 1), api.ErrLimit)
			continue
		}
		encumber(t, v, 0, of(2, 1), 3, true)
		has(t, v, 3, append(made, whole(api.Doc{ID: 3, Kind: 2, Year: 2020}, fresh(2, 1))...), grown(a, 0, 1), grown(b, 0, 1))
	}
	n := node(1, 0, 10, true)
	refused(t, with(t, n), 2020, 0, of(1, 5, 1, 6), api.ErrLimit)
	v := with(t, n)
	encumber(t, v, 0, of(1, 5, 1, 5), 1, false)
	untouched(t, v, 2020, 0, of(1, 1), api.ErrLimit)
}

// P32.2: a warning of any line, and of any node of its path, is told.
func TestNewWarned(t *testing.T) {
	for beyond := range 16 {
		var l []api.Node
		for i := range 4 {
			n := node(1+i, 0, 6, false)
			if beyond>>i&1 == 1 {
				n.Limit = 5
			}
			l = append(l, n)
		}
		encumber(t, with(t, l...), 0, of(1, 6, 2, 6, 3, 6, 4, 6), 1, beyond != 0)
	}
	for _, limits := range [][3]int{{0, 99, 99}, {99, 0, 99}, {99, 99, 0}} {
		a, b, c := node(1, 0, limits[0], false), node(2, 1, limits[1], false), node(3, 2, limits[2], false)
		encumber(t, with(t, a, b, c), 0, of(3, 1), 1, true)
	}
}

// P32.2: the errors in their order, without a document to go over from: the year's, the lines' own, line by line the nodes', the counter's.
func TestNewErrors(t *testing.T) {
	free, tight, odd := node(1, 0, 100, false), node(2, 0, 0, true), node(3, 0, 100, true)
	odd.Exp = -1
	for _, c := range []struct {
		year int
		l    []api.Line
		want api.Errno
	}{
		{2021, of(1, 1), api.ErrNone}, {2021, nil, api.ErrNone}, {0, of(1, 0), api.ErrNone}, {1<<32 + 2020, of(1, 1), api.ErrNone}, {math.MinInt, of(9, 1), api.ErrNone},
		{2019, of(1, 1), api.ErrClosed}, {2019, nil, api.ErrClosed}, {2019, of(9, 1), api.ErrClosed},
		{2020, nil, api.ErrArg}, {2020, []api.Line{}, api.ErrArg}, {2020, many(mostLines + 1), api.ErrArg}, {2020, of(9, 0), api.ErrArg}, {2020, of(2, 1, 9, -1), api.ErrArg}, {2020, of(1, most+1), api.ErrArg}, {2020, of(1, math.MinInt), api.ErrArg},
		{2020, of(9, 1), api.ErrNone}, {2020, of(0, 1), api.ErrNone}, {2020, of(-1, 1), api.ErrNone}, {2020, of(1<<32+1, 1), api.ErrNone},
		{2020, of(2, 1), api.ErrLimit}, {2020, of(3, 1), api.ErrRange},
		{2020, of(1, 1, 9, 1), api.ErrNone}, {2020, of(1, 1, 2, 1), api.ErrLimit}, {2020, of(1, 200, 3, 1), api.ErrRange},
		{2020, of(9, 1, 2, 1, 3, 1), api.ErrNone}, {2020, of(2, 1, 9, 1, 3, 1), api.ErrLimit}, {2020, of(3, 1, 9, 1, 2, 1), api.ErrRange},
	} {
		v := with(t, free, tight, odd)
		years.Open(v, 2019)
		years.Shut(v, 2019)
		refused(t, v, c.year, 0, c.l, c.want)
		if got := docs.Last(v); got != 0 {
			t.Errorf("behind %v an ID %d is given out", c.l, got)
		}
		v.Abort()
	}
	for _, last := range []int{-1, math.MinInt, top, top + 1, math.MaxInt} {
		v := with(t, free, tight, odd)
		count(t, v, last)
		refused(t, v, 2020, 0, of(2, 1), api.ErrLimit)
		refused(t, v, 2020, 0, nil, api.ErrArg)
		refused(t, v, 2020, 0, of(1, 200), api.ErrRange)
	}
}

// P32.2: the errors in their order, with a document to go over from: the year's, the lines' own, Take's, line by line the nodes', the counter's.
func TestNewFromErrors(t *testing.T) {
	begin := func() *view.View {
		v := with(t, node(1, 0, 100, true), node(2, 0, 100, true))
		years.Open(v, 2021)
		years.Open(v, 2019)
		reserve(t, v, of(1, 10, 2, 10, 1, 10), 1)
		encumber(t, v, 0, of(1, 10), 2, false)
		if _, err := docs.Put(v, api.Doc{Kind: api.DocExp, Year: 2020}, fresh(1, 10)); err != api.OK {
			t.Fatalf("Put: %d", err)
		}
		years.Shut(v, 2019)
		return v
	}
	for _, c := range []struct {
		year, from int
		l          []api.Line
		want       api.Errno
	}{
		{2018, 1, of(0, 1), api.ErrNone}, {2018, 9, nil, api.ErrNone}, {2019, 1, of(0, 1), api.ErrClosed}, {2019, 9, nil, api.ErrClosed},
		{2020, 1, nil, api.ErrArg}, {2020, 9, nil, api.ErrArg}, {2020, 2, nil, api.ErrArg}, {2020, 1, many(mostLines + 1), api.ErrArg}, {2020, 1, of(0, 0), api.ErrArg}, {2020, 1, of(0, -1), api.ErrArg}, {2020, 9, of(0, most+1), api.ErrArg}, {2020, 2, of(7, 0), api.ErrArg},
		{2020, 4, of(0, 1), api.ErrNone}, {2020, 9, of(0, 1), api.ErrNone}, {2020, -1, of(0, 1), api.ErrNone}, {2020, -1, of(1, 1), api.ErrNone}, {2020, math.MinInt, of(1, 1), api.ErrNone}, {2020, 1<<32 + 1, of(0, 1), api.ErrNone}, {2020, 1 << 32, of(0, 1), api.ErrNone}, {2020, math.MinInt, of(0, 1), api.ErrNone},
		{2020, 2, of(0, 1), api.ErrState}, {2020, 3, of(0, 1), api.ErrState}, {2021, 1, of(0, 1), api.ErrState}, {2021, 1, of(9, 1), api.ErrState},
		{2020, 1, of(3, 1), api.ErrNone}, {2020, 1, of(-1, 1), api.ErrNone}, {2020, 1, of(0, 1, 3, 1), api.ErrNone}, {2020, 1, of(3, 1, 0, 11), api.ErrNone},
		{2020, 1, of(0, 11), api.ErrState}, {2020, 1, of(0, 6, 0, 5), api.ErrState}, {2020, 1, of(0, 11, 3, 1), api.ErrState}, {2020, 1, of(1, 10, 2, 11), api.ErrState},
	} {
		untouched(t, begin(), c.year, c.from, c.l, c.want)
	}
	// Take is ahead of the nodes, and they are ahead of the counter.
	v := begin()
	stand(t, v, node(2, 0, 100, true))
	v.Delete(keys.Key('N', 2020, 1))
	count(t, v, top)
	for _, c := range []struct {
		l    []api.Line
		want api.Errno
	}{{of(0, 1, 0, 10), api.ErrState}, {of(0, 1, 9, 1), api.ErrNone}, {of(0, 1, 1, 1), api.ErrNone}, {of(1, 1, 0, 1), api.ErrRange}, {of(1, 1), api.ErrRange}} {
		commit(t, v)
		refused(t, v, 2020, 1, c.l, c.want)
		v.Abort()
	}
	v = begin()
	count(t, v, top)
	refused(t, v, 2020, 1, of(0, 1), api.ErrRange)
	if n, _ := tree.Get(v, 2020, 1); n.Pre != 19 || n.Enc != 11 {
		t.Errorf("the counter was asked ahead of the node %v", n)
	}
}

// P32.2: figures of a node that may not be refuse what goes over, too.
func TestNewFromRange(t *testing.T) {
	for _, c := range []struct {
		pre, enc int
		want     api.Errno
	}{{10, 0, api.OK}, {9, 0, api.ErrRange}, {0, 10, api.ErrRange}, {10, -1, api.ErrRange}, {10, bound, api.ErrRange}, {bound, bound + 1, api.ErrRange}} {
		n := node(1, 0, bound, true)
		v := with(t, n)
		reserve(t, v, of(1, 10), 1)
		stand(t, v, grown(n, c.pre, c.enc))
		if c.want == api.OK {
			encumber(t, v, 1, of(0, 10), 2, false)
			continue
		}
		refused(t, v, 2020, 1, of(0, 10), c.want)
	}
}

// P32.2: the highest amounts.
func TestNewMost(t *testing.T) {
	n := node(1, 0, bound, true)
	n.Exp = bound - 6*most
	v := with(t, n)
	reserve(t, v, of(1, most, 1, most, 1, most), 1)
	encumber(t, v, 1, of(0, most, 2, most), 2, false)
	encumber(t, v, 0, of(1, most, 1, most, 1, most), 3, false)
	if got, _ := tree.Get(v, 2020, 1); got != grown(n, most, 5*most) {
		t.Errorf("the node is %v", got)
	}
	untouched(t, v, 2020, 0, of(1, 1), api.ErrLimit)
	encumber(t, v, 1, of(1, most), 4, false)
}

// life is a year's pre-encumbrances and encumbrances, in tables: nodes by their IDs, and documents.
type life struct {
	nodes []api.Node
	docs  []api.Doc
	lines [][]api.DocLine
}

// charge lets a node and those above it grow; a node's parent is half its ID.
func (f *life) charge(id, pre, enc int) (bool, api.Errno) {
	warned := false
	for at := id; at > 0; at /= 2 {
		n := grown(f.nodes[at-1], pre, enc)
		f.nodes[at-1] = n
		switch beyond := pre+enc > 0 && n.Pre+n.Enc > n.Limit; {
		case beyond && n.Absolute:
			return false, api.ErrLimit
		case beyond:
			warned = true
		}
	}
	return warned, api.OK
}

// encumber is what P32.2 says, of lines that may be.
func (f *life) encumber(from int, l []api.Line) (bool, api.Errno) {
	var all []api.DocLine
	for _, x := range l {
		one := api.DocLine{Node: x.Node, Original: x.Amount}
		if from > 0 {
			if from > len(f.docs) {
				return false, api.ErrNone
			}
			if f.docs[from-1].Kind != api.DocPre {
				return false, api.ErrState
			}
			if x.Node >= len(f.lines[from-1]) {
				return false, api.ErrNone
			}
			was := &f.lines[from-1][x.Node]
			if was.Original-was.Liquidated < x.Amount {
				return false, api.ErrState
			}
			was.Liquidated += x.Amount
			one.Node = was.Node
		}
		all = append(all, one)
	}
	warned := false
	for _, x := range all {
		less := 0
		if from > 0 {
			less = x.Original
		}
		warns, err := f.charge(x.Node, -less, x.Original)
		if err != api.OK {
			return false, err
		}
		warned = warned || warns
	}
	f.add(api.DocEnc, from, all)
	return warned, api.OK
}

func (f *life) add(kind, from int, l []api.DocLine) {
	f.docs = append(f.docs, api.Doc{ID: len(f.docs) + 1, Kind: kind, Year: 2020, From: from})
	f.lines = append(f.lines, l)
}

func (f *life) clone() *life {
	to := &life{nodes: slices.Clone(f.nodes), docs: slices.Clone(f.docs)}
	for _, l := range f.lines {
		to.lines = append(to.lines, slices.Clone(l))
	}
	return to
}

func (f *life) pairs() []api.Pair {
	var all []api.Pair
	for i, d := range f.docs {
		all = append(all, whole(d, f.lines[i])...)
	}
	return all
}

// P32.1, P32.2, P32.3: long lives on a disk, held against tables.
func TestMany(t *testing.T) {
	for seed := range 10 {
		d, _ := disk.New(601)
		k, err := kv.Format(d)
		if err != api.OK {
			t.Fatalf("Format: %d", err)
		}
		v := view.New(k)
		years.Open(v, 2020)
		now := &life{}
		for id := 1; id <= 7; id++ {
			now.nodes = append(now.nodes, node(id, id/2, 150*(8-id)+seed, (id+seed)%3 > 0))
		}
		stand(t, v, now.nodes...)
		rand := uint32(seed + 1)
		next := func(n int) int {
			rand = rand*1664525 + 1013904223
			return int(rand>>8) % n
		}
		done := map[api.Errno]int{}
		over := 0
		for range 150 {
			commit(t, v)
			l := of()
			for range 1 + next(3) {
				l = append(l, of(1+next(7), 1+next(20))...)
			}
			after := now.clone()
			if next(2) == 0 {
				id, _, err := pre.New(v, 2020, l)
				if err != api.OK {
					v.Abort()
					continue
				}
				all := []api.DocLine{}
				for _, x := range l {
					all = append(all, fresh(x.Node, x.Amount)...)
					after.charge(x.Node, x.Amount, 0)
				}
				after.add(api.DocPre, 0, all)
				now = after
				has(t, v, id, now.pairs(), now.nodes...)
				continue
			}
			from := next(2) * (1 + next(len(now.docs)+1))
			if from > 0 {
				for i := range l {
					l[i] = api.Line{Node: next(5) / 2, Amount: 1 + next(6)}
				}
			}
			warned, want := after.encumber(from, l)
			done[want]++
			if want != api.OK {
				refused(t, v, 2020, from, l, want)
				v.Abort()
				has(t, v, len(now.docs), now.pairs(), now.nodes...)
				continue
			}
			encumber(t, v, from, l, len(after.docs), warned)
			if from > 0 {
				over++
				sameUsed(t, now.nodes, tree.All(v, 2020))
			}
			now = after
			has(t, v, len(now.docs), now.pairs(), now.nodes...)
			open(t, v, now.nodes)
		}
		if over < 5 || done[api.OK] < 15 || done[api.ErrNone] < 3 || done[api.ErrState] < 3 || done[api.ErrLimit] < 3 {
			t.Errorf("only so much was done: %d over, %v", over, done)
		}
	}
}

// sameUsed looks that no node has used more, or less, than ahead.
func sameUsed(t *testing.T, before, after []api.Node) {
	t.Helper()
	for i, n := range before {
		if tree.Used(n) != tree.Used(after[i]) {
			t.Errorf("%v uses another amount as %v", n, after[i])
		}
	}
}

// open looks that what lines of nodes have open, with what is below, is what each has pre-encumbered, and encumbered.
func open(t *testing.T, v *view.View, nodes []api.Node) {
	t.Helper()
	var sums [8][3]int
	for _, kind := range []int{api.DocPre, api.DocEnc} {
		for _, id := range docs.All(v, 2020, kind) {
			_, l, _ := docs.Get(v, id)
			for _, x := range l {
				if !docs.Right(x) {
					t.Errorf("%v is not right", x)
				}
				for at := x.Node; at > 0; at /= 2 {
					sums[at][kind] += docs.Open(x)
				}
			}
		}
	}
	for _, n := range nodes {
		if sums[n.ID][api.DocPre] != n.Pre || sums[n.ID][api.DocEnc] != n.Enc {
			t.Errorf("%v is open of %v", sums[n.ID], n)
		}
	}
}

func commit(t *testing.T, v *view.View) {
	t.Helper()
	if err := v.Commit(); err != api.OK {
		t.Fatalf("Commit: %d", err)
	}
}

// P32.1, P32.2: the view is changed, and nothing below it till its Commit.
func TestOnDisk(t *testing.T) {
	d, _ := disk.New(201)
	k, err := kv.Format(d)
	if err != api.OK {
		t.Fatalf("Format: %d", err)
	}
	v := view.New(k)
	n := node(1, 0, 10, true)
	years.Open(v, 2020)
	stand(t, v, n)
	reserve(t, v, of(1, 8), 1)
	commit(t, v)
	was := whole(api.Doc{ID: 1, Kind: 1, Year: 2020}, fresh(1, 8))
	encumber(t, v, 1, of(0, 5), 2, false)
	has(t, view.New(k), 1, was, grown(n, 8, 0))
	v.Abort()
	has(t, v, 1, was, grown(n, 8, 0))
	take(t, v, api.DocPre, 2020, 1, of(0, 5), fresh(1, 5)...)
	tells(t, view.New(k), 1, fresh(1, 8)...)
	v.Abort()
	encumber(t, v, 1, of(0, 5), 2, false)
	commit(t, v)
	now := whole(api.Doc{ID: 1, Kind: 1, Year: 2020}, []api.DocLine{{Node: 1, Original: 8, Liquidated: 5}})
	now = append(now, whole(api.Doc{ID: 2, Kind: 2, Year: 2020, From: 1}, fresh(1, 5))...)
	has(t, view.New(k), 2, now, grown(n, 3, 5))

	// What is refused behind its first line goes with an Abort.
	refused(t, v, 2020, 0, of(1, 1, 1, 2), api.ErrLimit)
	v.Abort()
	has(t, v, 2, now, grown(n, 3, 5))

	// In a view whose store met an error there is no year, and no document.
	d.Arm(0)
	d.Write(0, make([]byte, api.Sector))
	refused(t, v, 2020, 0, of(1, 1), api.ErrNone)
	if got, err := Take(v, api.DocPre, 2020, 1, of(0, 1)); len(got) != 0 || err != api.ErrNone {
		t.Errorf("Take: %v, %d", got, err)
	}
	if err := v.Err(); err != api.ErrDown {
		t.Errorf("Err: %d", err)
	}
}

// P32.1, P32.2, R5: in a view that no call made there is no year, and no document.
func TestNoView(t *testing.T) {
	for _, v := range []*view.View{nil, {}} {
		for _, l := range [][]api.Line{nil, of(1, 1), of(1, 0)} {
			refused(t, v, 2020, 0, l, api.ErrNone)
			refused(t, v, 2020, 1, l, api.ErrNone)
			kept(t, v, api.DocPre, 2020, 1, l, api.ErrNone)
		}
	}
}

// R3: what is handed in stays, its spare room too, and what is answered may be changed.
func TestNothingShared(t *testing.T) {
	v := with(t, node(1, 0, 900, true))
	room := many(5)
	encumber(t, v, 0, room[:2], 1, false)
	reserve(t, v, of(1, 10, 1, 20), 2)
	places := of(0, 3, 1, 4, 0, 5)
	encumber(t, v, 2, places[:2], 3, false)
	got, _ := Take(v, api.DocPre, 2020, 2, places[:2])
	if !slices.Equal(room, many(5)) || !slices.Equal(places, of(0, 3, 1, 4, 0, 5)) {
		t.Errorf("the lines are %v and %v now", room, places)
	}
	clear(room)
	clear(places)
	clear(got[:cap(got)])
	tells(t, v, 1, fresh(1, 1, 1, 2)...)
	tells(t, v, 2, api.DocLine{Node: 1, Original: 10, Liquidated: 6}, api.DocLine{Node: 1, Original: 20, Liquidated: 8})
	tells(t, v, 3, fresh(1, 3, 1, 4)...)
}
