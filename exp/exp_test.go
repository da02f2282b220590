package exp

import (
	"bytes"
	"math"
	"slices"
	"testing"

	"exchequer/api"
	"exchequer/bal"
	"exchequer/disk"
	"exchequer/docs"
	"exchequer/enc"
	"exchequer/entry"
	"exchequer/field"
	"exchequer/keys"
	"exchequer/kv"
	"exchequer/pre"
	"exchequer/recs"
	"exchequer/tree"
	"exchequer/trial"
	"exchequer/view"
	"exchequer/years"
)

const (
	top = 1<<32 - 1
	// mostLines, most, bound, total and cash are MaxLines, MaxAmount, 2^60, MaxTotal and Cash, written out.
	mostLines = 6
	most      = 9007199254740992
	bound     = 1152921504606846976
	total     = 4611686018427387904
	cash      = 1010
)

// books are all that is to stand in a view, with 2020 open.
type books struct {
	nodes              []api.Node
	docs               []api.Doc
	lines              [][]api.DocLine
	entries            []api.Entry
	posts              [][]api.Line
	lastDoc, lastEntry int
}

// doc adds a document, whose ID is the last one.
func (b *books) doc(kind, from int, l ...api.DocLine) {
	b.lastDoc++
	b.docs = append(b.docs, api.Doc{ID: b.lastDoc, Kind: kind, Year: 2020, From: from, Lines: len(l)})
	b.lines = append(b.lines, l)
}

// post adds the entry of a document, whose ID is the last one.
func (b *books) post(of int, l ...api.Line) {
	b.lastEntry++
	b.entries = append(b.entries, api.Entry{ID: b.lastEntry, Year: 2020, Kind: 3, Lines: len(l), Of: of})
	b.posts = append(b.posts, l)
}

func (b *books) clone() *books {
	to := &books{slices.Clone(b.nodes), slices.Clone(b.docs), nil, slices.Clone(b.entries), slices.Clone(b.posts), b.lastDoc, b.lastEntry}
	for _, l := range b.lines {
		to.lines = append(to.lines, slices.Clone(l))
	}
	return to
}

// pairs are what the books are in a view.
func (b *books) pairs() []api.Pair {
	all := []api.Pair{{Key: keys.Key('Y', 2020), Value: field.Pack(api.YearOpen)}}
	if b.lastEntry > 0 {
		all = append(all, api.Pair{Key: keys.Key('S', 1), Value: field.Pack(b.lastEntry)})
	}
	if b.lastDoc > 0 {
		all = append(all, api.Pair{Key: keys.Key('S', 2), Value: field.Pack(b.lastDoc)})
	}
	for _, n := range b.nodes {
		all = append(all, recs.Node(n))
	}
	for i, d := range b.docs {
		all = append(all, recs.Doc(d))
		for line, x := range b.lines[i] {
			all = append(all, recs.DocLine(d.ID, line, x))
		}
	}
	sums := map[[2]int]int{}
	for i, e := range b.entries {
		all = append(all, recs.Entry(e))
		for line, x := range b.posts[i] {
			all = append(all, recs.Line(e.ID, line, x))
			sums[[2]int{x.Fund, x.Object}] += x.Amount
		}
	}
	for account, sum := range sums {
		if sum != 0 {
			all = append(all, api.Pair{Key: keys.Key('B', 2020, account[0], account[1]), Value: field.Pack(sum)})
		}
	}
	slices.SortFunc(all, func(a, b api.Pair) int { return bytes.Compare(a.Key, b.Key) })
	return all
}

// has looks that just these books stand in a view.
func has(t *testing.T, v *view.View, b *books) {
	t.Helper()
	if got, want := v.Scan(nil), b.pairs(); !samePairs(got, want) {
		t.Errorf("there stand %v, not %v", got, want)
	}
}

func samePairs(a, b []api.Pair) bool {
	return slices.EqualFunc(a, b, func(a, b api.Pair) bool {
		return bytes.Equal(a.Key, b.Key) && bytes.Equal(a.Value, b.Value)
	})
}

// node is one of 2020 with a limit; of the other numbers each is known from the others.
func node(id, parent, limit int, absolute bool) api.Node {
	return api.Node{Year: 2020, ID: id, Parent: parent, Fund: 100 + id, Object: 5000 + id, Absolute: absolute, Limit: limit, Lapsed: 70 + id, Carried: 80 + id}
}

// grown is a node with more encumbered, and more spent.
func grown(n api.Node, enc, exp int) api.Node {
	n.Enc += enc
	n.Exp += exp
	return n
}

// with is a view in which 2020 is open, and has these nodes.
func with(t *testing.T, l ...api.Node) *view.View {
	t.Helper()
	v := view.New(nil)
	if err := years.Open(v, 2020); err != api.OK {
		t.Fatalf("Open: %d", err)
	}
	stand(t, v, l...)
	return v
}

func stand(t *testing.T, v *view.View, l ...api.Node) {
	t.Helper()
	for _, n := range l {
		if err := tree.Put(v, n); err != api.OK {
			t.Fatalf("Put %v: %d", n, err)
		}
	}
}

// count lets an ID be the last one that was given out: of entries (1), or of documents (2).
func count(t *testing.T, v *view.View, which, last int) {
	t.Helper()
	if err := v.Put(keys.Key('S', which), field.Pack(last)); err != api.OK {
		t.Fatalf("Put: %d", err)
	}
}

// balance lets an account of 2020 have a balance.
func balance(t *testing.T, v *view.View, fund, object, n int) {
	t.Helper()
	if err := bal.Add(v, 2020, api.Line{Fund: fund, Object: object, Amount: n}); err != api.OK {
		t.Fatalf("Add: %d", err)
	}
}

// of are lines of a command: nodes, or places of lines, with their amounts.
func of(nums ...int) []api.Line {
	var l []api.Line
	for at := 0; at < len(nums); at += 2 {
		l = append(l, api.Line{Node: nums[at], Amount: nums[at+1]})
	}
	return l
}

// many are n lines of amounts that may be.
func many(n int) []api.Line {
	var l []api.Line
	for i := range n {
		l = append(l, api.Line{Node: 1, Amount: 1 + i})
	}
	return l
}

// fresh are lines of a document of which nothing is liquidated yet.
func fresh(nums ...int) []api.DocLine {
	var l []api.DocLine
	for _, x := range of(nums...) {
		l = append(l, api.DocLine{Node: x.Node, Original: x.Amount})
	}
	return l
}

// spent are lines of an expenditure.
func spent(nums ...int) []api.DocLine {
	l := fresh(nums...)
	for i := range l {
		l[i].Liquidated = l[i].Original
	}
	return l
}

// paid are lines of an expenditure's entry: of nodes, as node makes them, with amounts.
func paid(nums ...int) []api.Line {
	var l []api.Line
	for _, x := range of(nums...) {
		l = append(l, api.Line{Fund: 100 + x.Node, Object: 5000 + x.Node, Amount: x.Amount}, api.Line{Fund: 100 + x.Node, Object: cash, Amount: -x.Amount})
	}
	return l
}

// expend looks what is answered of lines in 2020.
func expend(t *testing.T, v *view.View, from int, l []api.Line, want int, wantWarned bool) {
	t.Helper()
	if id, warned, err := New(v, 2020, from, l); id != want || warned != wantWarned || err != api.OK {
		t.Errorf("New from %d %v: %d, %t, %d, not %d, %t", from, l, id, warned, err, want, wantWarned)
	}
}

// refused looks that an expenditure is.
func refused(t *testing.T, v *view.View, year, from int, l []api.Line, want api.Errno) {
	t.Helper()
	if id, warned, err := New(v, year, from, l); id != 0 || warned || err != want {
		t.Errorf("New %d from %d %v: %d, %t, %d, not %d", year, from, l, id, warned, err, want)
	}
}

// untouched looks that one is refused, and that nothing is changed by it.
func untouched(t *testing.T, v *view.View, year, from int, l []api.Line, want api.Errno) {
	t.Helper()
	before := v.Scan(nil)
	refused(t, v, year, from, l, want)
	if !samePairs(v.Scan(nil), before) {
		t.Errorf("behind New %d from %d %v there stand %v, not %v", year, from, l, v.Scan(nil), before)
	}
}

func reserve(t *testing.T, v *view.View, l []api.Line, want int) {
	t.Helper()
	if id, _, err := pre.New(v, 2020, l); id != want || err != api.OK {
		t.Fatalf("pre.New %v: %d, %d, not %d", l, id, err, want)
	}
}

func encumber(t *testing.T, v *view.View, from int, l []api.Line, want int) {
	t.Helper()
	if id, _, err := enc.New(v, 2020, from, l); id != want || err != api.OK {
		t.Fatalf("enc.New from %d %v: %d, %d, not %d", from, l, id, err, want)
	}
}

func commit(t *testing.T, v *view.View) {
	t.Helper()
	if err := v.Commit(); err != api.OK {
		t.Fatalf("Commit: %d", err)
	}
}

// lines looks what Lines answers.
func lines(t *testing.T, v *view.View, year int, l []api.DocLine, want ...api.Line) {
	t.Helper()
	if got := Lines(v, year, l); !slices.Equal(got, want) {
		t.Errorf("Lines %d %v: %v, not %v", year, l, got, want)
	}
}

// P33.1: of each line whose node is there, two lines of its fund.
func TestLines(t *testing.T) {
	v := with(t, node(1, 0, 5, true), node(2, 1, 5, false), node(9, 0, 0, true))
	lines(t, v, 2020, fresh(1, 7), api.Line{Fund: 101, Object: 5001, Amount: 7}, api.Line{Fund: 101, Object: 1010, Amount: -7})
	lines(t, v, 2020, fresh(9, 3, 1, 4, 2, 5, 1, 6), paid(9, 3, 1, 4, 2, 5, 1, 6)...)
	lines(t, v, 2020, nil)
	lines(t, v, 2020, []api.DocLine{})
	// What is not there has no lines, and those around it are told.
	lines(t, v, 2020, fresh(3, 7))
	lines(t, v, 2020, fresh(3, 7, 1, 8, 0, 9, 2, 10, 10, 11), paid(1, 8, 2, 10)...)
	for _, id := range []int{0, -1, 3, top, 1<<32 + 1, 1 - 1<<32, math.MinInt, math.MaxInt} {
		lines(t, v, 2020, fresh(id, 7))
	}
	if got := v.Scan(nil); !samePairs(got, (&books{nodes: []api.Node{node(1, 0, 5, true), node(2, 1, 5, false), node(9, 0, 0, true)}}).pairs()) {
		t.Errorf("there stand %v", got)
	}
}

// P33.1: it is the nodes of that year, open or not, that are asked.
func TestLinesYears(t *testing.T) {
	v := with(t, node(1, 0, 5, true))
	other := api.Node{Year: 2021, ID: 1, Fund: 300, Object: 5300}
	zero, last := api.Node{ID: 1, Fund: 400, Object: 5400}, api.Node{Year: top, ID: top, Fund: 500, Object: 5500}
	stand(t, v, other, zero, last)
	lines(t, v, 2020, fresh(1, 7), paid(1, 7)...)
	lines(t, v, 2021, fresh(1, 7), api.Line{Fund: 300, Object: 5300, Amount: 7}, api.Line{Fund: 300, Object: 1010, Amount: -7})
	lines(t, v, 0, fresh(1, 7), api.Line{Fund: 400, Object: 5400, Amount: 7}, api.Line{Fund: 400, Object: 1010, Amount: -7})
	lines(t, v, top, fresh(top, 7), api.Line{Fund: 500, Object: 5500, Amount: 7}, api.Line{Fund: 500, Object: 1010, Amount: -7})
	for _, year := range []int{2019, 2022, -1, -2020, 1<<32 + 2020, 1 << 32, math.MinInt, math.MaxInt} {
		lines(t, v, year, fresh(1, 7, top, 8))
	}
}

// P33.1: it is the Original that counts, whatever it is; nothing else of a line but its node does, and any fund and object will do.
func TestLinesNumbers(t *testing.T) {
	v := with(t, node(1, 0, 5, true))
	for _, n := range []int{0, 1, -1, most, most + 1, bound, math.MaxInt, -math.MaxInt, math.MinInt} {
		lines(t, v, 2020, fresh(1, n), paid(1, n)...)
		lines(t, v, 2020, []api.DocLine{{Node: 1, Original: n, Liquidated: 3, Cancelled: n}}, paid(1, n)...)
		stand(t, v, api.Node{Year: 2020, ID: 2, Parent: n, Fund: n, Object: n - 1, Limit: n, Pre: n, Enc: n, Exp: n})
		lines(t, v, 2020, fresh(2, 6), api.Line{Fund: n, Object: n - 1, Amount: 6}, api.Line{Fund: n, Object: 1010, Amount: -6})
	}
	var l []api.DocLine
	var want []api.Line
	for i := range 100 {
		l = append(l, fresh(1, i)...)
		want = append(want, paid(1, i)...)
	}
	lines(t, v, 2020, l, want...)
}

// P33.1: without a document to go over from, the nodes have more spent, and the journal tells it.
func TestNew(t *testing.T) {
	a, b, c, d := node(1, 0, 900, true), node(2, 1, 400, true), node(3, 1, 300, false), node(4, 2, 100, true)
	v := with(t, a, b, c, d)
	expend(t, v, 0, of(4, 7), 1, false)
	all := &books{nodes: []api.Node{grown(a, 0, 7), grown(b, 0, 7), c, grown(d, 0, 7)}}
	all.doc(3, 0, spent(4, 7)...)
	all.post(1, paid(4, 7)...)
	has(t, v, all)
	expend(t, v, 0, of(2, 10, 3, 20, 1, 30, 2, 10), 2, false)
	all.nodes = []api.Node{grown(a, 0, 77), grown(b, 0, 27), grown(c, 0, 20), grown(d, 0, 7)}
	all.doc(3, 0, spent(2, 10, 3, 20, 1, 30, 2, 10)...)
	all.post(2, paid(2, 10, 3, 20, 1, 30, 2, 10)...)
	has(t, v, all)
	// Of a line Fund and Object count for nothing.
	expend(t, v, 0, []api.Line{{Fund: 2, Object: -9, Node: 4, Amount: 5}}, 3, false)
	all.nodes = []api.Node{grown(a, 0, 82), grown(b, 0, 32), grown(c, 0, 20), grown(d, 0, 12)}
	all.doc(3, 0, spent(4, 5)...)
	all.post(3, paid(4, 5)...)
	has(t, v, all)
}

// P33.1: what goes over is liquidated, and no longer encumbered; with the document's fourth example.
func TestNewFrom(t *testing.T) {
	n := node(1, 0, 10, true)
	v := with(t, n)
	reserve(t, v, of(1, 10), 1)
	encumber(t, v, 1, of(0, 7), 2)
	expend(t, v, 2, of(0, 4), 3, false)
	now := grown(n, 3, 4)
	now.Pre = 3
	all := &books{nodes: []api.Node{now}}
	all.doc(1, 0, api.DocLine{Node: 1, Original: 10, Liquidated: 7})
	all.doc(2, 1, api.DocLine{Node: 1, Original: 7, Liquidated: 4})
	all.doc(3, 2, spent(1, 4)...)
	all.post(3, paid(1, 4)...)
	has(t, v, all)
	untouched(t, v, 2020, 2, of(0, 4), api.ErrState)
	expend(t, v, 2, of(0, 3), 4, false)
	now = grown(n, 0, 7)
	now.Pre = 3
	all.nodes[0] = now
	all.lines[1][0].Liquidated = 7
	all.doc(3, 2, spent(1, 3)...)
	all.post(4, paid(1, 3)...)
	has(t, v, all)
	untouched(t, v, 2020, 2, of(0, 1), api.ErrState)
}

// P33.1: lines are named by their places, and their nodes, with those above, are charged.
func TestNewFromLines(t *testing.T) {
	a, b, c := node(5, 0, 100, true), node(6, 5, 60, true), node(7, 5, 40, false)
	v := with(t, a, b, c)
	encumber(t, v, 0, of(6, 20, 7, 30, 6, 10), 1)
	expend(t, v, 1, of(2, 10, 0, 5, 1, 8, 0, 6), 2, false)
	all := &books{nodes: []api.Node{grown(a, 31, 29), grown(b, 9, 21), grown(c, 22, 8)}}
	all.doc(2, 0, api.DocLine{Node: 6, Original: 20, Liquidated: 11}, api.DocLine{Node: 7, Original: 30, Liquidated: 8}, api.DocLine{Node: 6, Original: 10, Liquidated: 10})
	all.doc(3, 1, spent(6, 10, 6, 5, 7, 8, 6, 6)...)
	all.post(2, paid(6, 10, 6, 5, 7, 8, 6, 6)...)
	has(t, v, all)
}

// P33.1: IDs of documents and those of entries rise, each from the last one of theirs.
func TestNewIDs(t *testing.T) {
	v := with(t, node(1, 0, bound, false))
	if _, err := entry.Put(v, api.Entry{Year: 2020, Kind: api.EntryPost}, paid(1, 5)); err != api.OK {
		t.Fatalf("Put: %d", err)
	}
	for id := 1; id <= 20; id++ {
		expend(t, v, 0, many(1+id%mostLines), id, false)
		if e, _, ok := entry.Get(v, id+1); !ok || e.Of != id || e.Lines != 2+id%mostLines*2 {
			t.Errorf("the entry of %d is %v", id, e)
		}
	}
	count(t, v, 2, 76)
	encumber(t, v, 0, of(1, 50), 77)
	expend(t, v, 77, of(0, 5), 78, false)
	count(t, v, 2, top-1)
	count(t, v, 1, top-1)
	expend(t, v, 77, of(0, 5), top, false)
	if d, l, ok := docs.Get(v, top); !ok || d.From != 77 || !slices.Equal(l, spent(1, 5)) {
		t.Errorf("the document is %v of %v", d, l)
	}
	if e, l, ok := entry.Get(v, top); !ok || e.Of != top || !slices.Equal(l, paid(1, 5)) {
		t.Errorf("the entry is %v of %v", e, l)
	}
}

// P33.1: beyond a limit nothing is spent of an absolute node, but what was encumbered goes over all the same, and without a warning.
func TestNewLimit(t *testing.T) {
	for _, absolute := range []bool{false, true} {
		a, b := node(1, 0, 30, absolute), node(2, 1, 30, absolute)
		v := with(t, a, b)
		encumber(t, v, 0, of(2, 30), 1)
		// Less is budgeted now than was encumbered.
		a, b = grown(a, 30, 0), grown(b, 30, 0)
		a.Limit, b.Limit = 5, 5
		stand(t, v, a, b)
		expend(t, v, 1, of(0, 30), 2, false)
		all := &books{nodes: []api.Node{grown(a, -30, 30), grown(b, -30, 30)}}
		all.doc(2, 0, api.DocLine{Node: 2, Original: 30, Liquidated: 30})
		all.doc(3, 1, spent(2, 30)...)
		all.post(2, paid(2, 30)...)
		has(t, v, all)
		if absolute {
			untouched(t, v, 2020, 0, of(2, 1), api.ErrLimit)
			continue
		}
		expend(t, v, 0, of(2, 1), 3, true)
		all.nodes = []api.Node{grown(a, -30, 31), grown(b, -30, 31)}
		all.doc(3, 0, spent(2, 1)...)
		all.post(3, paid(2, 1)...)
		has(t, v, all)
	}
	n := node(1, 0, 10, true)
	refused(t, with(t, n), 2020, 0, of(1, 5, 1, 6), api.ErrLimit)
	v := with(t, n)
	expend(t, v, 0, of(1, 5, 1, 5), 1, false)
	untouched(t, v, 2020, 0, of(1, 1), api.ErrLimit)
}

// P33.1: a warning of any line, and of any node of its path, is told.
func TestNewWarned(t *testing.T) {
	for beyond := range 16 {
		var l []api.Node
		for i := range 4 {
			n := node(1+i, 0, 6, false)
			if beyond>>i&1 == 1 {
				n.Limit = 5
			}
			l = append(l, n)
		}
		expend(t, with(t, l...), 0, of(1, 6, 2, 6, 3, 6, 4, 6), 1, beyond != 0)
	}
	for _, limits := range [][3]int{{0, 99, 99}, {99, 0, 99}, {99, 99, 0}} {
		a, b, c := node(1, 0, limits[0], false), node(2, 1, limits[1], false), node(3, 2, limits[2], false)
		expend(t, with(t, a, b, c), 0, of(3, 1), 1, true)
	}
}

// P33.1: the errors in their order, without a document to go over from: the year's, the lines' own, line by line the nodes', the document's, the entry's.
func TestNewErrors(t *testing.T) {
	free, tight, odd := node(1, 0, 100, false), node(2, 0, 0, true), node(3, 0, 100, true)
	odd.Enc = -1
	for _, c := range []struct {
		year int
		l    []api.Line
		want api.Errno
	}{
		{2021, of(1, 1), api.ErrNone}, {2021, nil, api.ErrNone}, {0, of(1, 0), api.ErrNone}, {1<<32 + 2020, of(1, 1), api.ErrNone}, {math.MinInt, of(9, 1), api.ErrNone},
		{2019, of(1, 1), api.ErrClosed}, {2019, nil, api.ErrClosed}, {2019, of(9, 1), api.ErrClosed},
		{2020, nil, api.ErrArg}, {2020, []api.Line{}, api.ErrArg}, {2020, many(mostLines + 1), api.ErrArg}, {2020, of(9, 0), api.ErrArg}, {2020, of(2, 1, 9, -1), api.ErrArg}, {2020, of(1, most+1), api.ErrArg}, {2020, of(1, math.MinInt), api.ErrArg},
		{2020, of(9, 1), api.ErrNone}, {2020, of(0, 1), api.ErrNone}, {2020, of(-1, 1), api.ErrNone}, {2020, of(1<<32+1, 1), api.ErrNone},
		{2020, of(2, 1), api.ErrLimit}, {2020, of(3, 1), api.ErrRange},
		{2020, of(1, 1, 9, 1), api.ErrNone}, {2020, of(1, 1, 2, 1), api.ErrLimit}, {2020, of(1, 200, 3, 1), api.ErrRange},
		{2020, of(9, 1, 2, 1, 3, 1), api.ErrNone}, {2020, of(2, 1, 9, 1, 3, 1), api.ErrLimit}, {2020, of(3, 1, 9, 1, 2, 1), api.ErrRange},
	} {
		v := with(t, free, tight, odd)
		years.Open(v, 2019)
		years.Shut(v, 2019)
		refused(t, v, c.year, 0, c.l, c.want)
		if docs.Last(v) != 0 || entry.Last(v) != 0 {
			t.Errorf("behind %v IDs %d and %d are given out", c.l, docs.Last(v), entry.Last(v))
		}
	}
	for _, which := range []int{1, 2} {
		for _, last := range []int{-1, math.MinInt, top, top + 1, math.MaxInt} {
			v := with(t, free, tight, odd)
			count(t, v, which, last)
			refused(t, v, 2020, 0, of(2, 1), api.ErrLimit)
			refused(t, v, 2020, 0, of(9, 1), api.ErrNone)
			refused(t, v, 2020, 0, nil, api.ErrArg)
			refused(t, v, 2020, 0, of(1, 200), api.ErrRange)
		}
	}
}

// P33.1: a balance that would be beyond what may be refuses an expenditure, also behind its first lines.
func TestNewBalances(t *testing.T) {
	for _, c := range []struct {
		object, was int
		want        api.Errno
	}{
		{5002, total - 7, api.OK}, {5002, total - 6, api.ErrRange}, {5002, -total, api.OK},
		{1010, -total + 7, api.OK}, {1010, -total + 6, api.ErrRange}, {1010, total, api.OK},
	} {
		v := with(t, node(1, 0, 100, true), node(2, 1, 100, false))
		balance(t, v, 102, c.object, c.was)
		encumber(t, v, 0, of(2, 20), 1)
		commit(t, v)
		for _, l := range [][]api.Line{of(2, 7), of(1, 5, 2, 7), of(2, 4, 1, 5, 2, 3)} {
			if c.want != api.OK {
				refused(t, v, 2020, 0, l, c.want)
			} else {
				expend(t, v, 0, l, 2, false)
			}
			v.Abort()
		}
		if c.want != api.OK {
			refused(t, v, 2020, 1, of(0, 7), c.want)
		} else {
			expend(t, v, 1, of(0, 7), 2, false)
		}
	}
}

// P33.1: the errors in their order, with a document to go over from: the year's, the lines' own, Take's, line by line the nodes', the document's, the entry's; with the chapter's example.
func TestNewFromErrors(t *testing.T) {
	begin := func() *view.View {
		v := with(t, node(1, 0, 100, true), node(2, 0, 100, true))
		years.Open(v, 2021)
		years.Open(v, 2019)
		encumber(t, v, 0, of(1, 10, 2, 10, 1, 10), 1)
		reserve(t, v, of(1, 10), 2)
		expend(t, v, 0, of(1, 10), 3, false)
		years.Shut(v, 2019)
		return v
	}
	for _, c := range []struct {
		year, from int
		l          []api.Line
		want       api.Errno
	}{
		{2018, 1, of(0, 1), api.ErrNone}, {2018, 9, nil, api.ErrNone}, {2019, 1, of(0, 1), api.ErrClosed}, {2019, 9, nil, api.ErrClosed},
		{2020, 1, nil, api.ErrArg}, {2020, 9, nil, api.ErrArg}, {2020, 2, nil, api.ErrArg}, {2020, 1, many(mostLines + 1), api.ErrArg}, {2020, 1, of(0, 0), api.ErrArg}, {2020, 1, of(0, -1), api.ErrArg}, {2020, 9, of(0, most+1), api.ErrArg}, {2020, 2, of(7, 0), api.ErrArg},
		{2020, 4, of(0, 1), api.ErrNone}, {2020, 9, of(0, 1), api.ErrNone}, {2020, -1, of(0, 1), api.ErrNone}, {2020, -1, of(1, 1), api.ErrNone}, {2020, math.MinInt, of(1, 1), api.ErrNone}, {2020, 1<<32 + 1, of(0, 1), api.ErrNone}, {2020, 1 << 32, of(0, 1), api.ErrNone}, {2020, math.MinInt, of(0, 1), api.ErrNone},
		{2020, 2, of(0, 1), api.ErrState}, {2020, 3, of(0, 1), api.ErrState}, {2021, 1, of(0, 1), api.ErrState}, {2021, 1, of(9, 1), api.ErrState},
		{2020, 1, of(3, 1), api.ErrNone}, {2020, 1, of(-1, 1), api.ErrNone}, {2020, 1, of(0, 1, 3, 1), api.ErrNone}, {2020, 1, of(3, 1, 0, 11), api.ErrNone},
		{2020, 1, of(0, 11), api.ErrState}, {2020, 1, of(0, 6, 0, 5), api.ErrState}, {2020, 1, of(0, 11, 3, 1), api.ErrState}, {2020, 1, of(1, 10, 2, 11), api.ErrState},
	} {
		untouched(t, begin(), c.year, c.from, c.l, c.want)
	}
	// Take is ahead of the nodes, and they are ahead of the counters.
	for _, which := range []int{1, 2} {
		v := begin()
		v.Delete(keys.Key('N', 2020, 1))
		count(t, v, which, top)
		for _, c := range []struct {
			l    []api.Line
			want api.Errno
		}{{of(0, 1, 0, 10), api.ErrState}, {of(0, 1, 9, 1), api.ErrNone}, {of(0, 1, 1, 1), api.ErrNone}, {of(1, 1, 0, 1), api.ErrNone}, {of(1, 1), api.ErrRange}} {
			commit(t, v)
			refused(t, v, 2020, 1, c.l, c.want)
			v.Abort()
		}
	}
}

// P33.1: figures of a node that may not be refuse what goes over, too.
func TestNewFromRange(t *testing.T) {
	for _, c := range []struct {
		enc, exp int
		want     api.Errno
	}{{10, 0, api.OK}, {9, 0, api.ErrRange}, {0, 10, api.ErrRange}, {10, -1, api.ErrRange}, {10, bound - 10, api.OK}, {10, bound - 9, api.ErrRange}, {10, bound, api.ErrRange}, {bound + 1, 0, api.ErrRange}} {
		n := node(1, 0, bound, true)
		v := with(t, n)
		encumber(t, v, 0, of(1, 10), 1)
		stand(t, v, grown(n, c.enc, c.exp))
		if c.want == api.OK {
			expend(t, v, 1, of(0, 10), 2, false)
			continue
		}
		refused(t, v, 2020, 1, of(0, 10), c.want)
	}
}

// P33.1: the highest amounts, and as many lines as may be.
func TestNewMost(t *testing.T) {
	n := node(1, 0, bound, true)
	n.Pre = bound - 12*most
	v := with(t, n)
	encumber(t, v, 0, of(1, most, 1, most, 1, most), 1)
	expend(t, v, 1, of(0, most, 2, most), 2, false)
	expend(t, v, 0, of(1, most, 1, most, 1, most, 1, most, 1, most, 1, most), 3, false)
	if got, _ := tree.Get(v, 2020, 1); got != grown(n, most, 8*most) {
		t.Errorf("the node is %v", got)
	}
	if got := bal.All(v, 2020); !slices.Equal(got, []api.Line{{Fund: 101, Object: 1010, Amount: -8 * most}, {Fund: 101, Object: 5001, Amount: 8 * most}}) {
		t.Errorf("the balances are %v", got)
	}
	expend(t, v, 1, of(1, most), 4, false)
	expend(t, v, 0, of(1, most, 1, most, 1, most), 5, false)
	untouched(t, v, 2020, 0, of(1, 1), api.ErrLimit)
}

// charge lets a node and those above it grow; a node's parent is half its ID.
func (b *books) charge(id, pre, enc, exp int) (bool, api.Errno) {
	warned := false
	for at := id; at > 0; at /= 2 {
		if at > len(b.nodes) {
			return false, api.ErrNone
		}
		n := grown(b.nodes[at-1], enc, exp)
		n.Pre += pre
		b.nodes[at-1] = n
		switch beyond := pre+enc+exp > 0 && n.Pre+n.Enc+n.Exp > n.Limit; {
		case beyond && n.Absolute:
			return false, api.ErrLimit
		case beyond:
			warned = true
		}
	}
	return warned, api.OK
}

// open adds a pre-encumbrance, or an encumbrance.
func (b *books) open(kind int, l []api.Line) {
	var all []api.DocLine
	for _, x := range l {
		all = append(all, fresh(x.Node, x.Amount)...)
		if kind == api.DocPre {
			b.charge(x.Node, x.Amount, 0, 0)
		} else {
			b.charge(x.Node, 0, x.Amount, 0)
		}
	}
	b.doc(kind, 0, all...)
}

// take is what an encumbrance has taken out of it.
func (b *books) take(from int, l []api.Line) ([]api.DocLine, api.Errno) {
	if from > len(b.docs) {
		return nil, api.ErrNone
	}
	if b.docs[from-1].Kind != api.DocEnc {
		return nil, api.ErrState
	}
	var all []api.DocLine
	for _, x := range l {
		if x.Node >= len(b.lines[from-1]) {
			return nil, api.ErrNone
		}
		was := &b.lines[from-1][x.Node]
		if was.Original-was.Liquidated < x.Amount {
			return nil, api.ErrState
		}
		was.Liquidated += x.Amount
		all = append(all, spent(was.Node, x.Amount)...)
	}
	return all, api.OK
}

// expend is what P33.1 says, of lines that may be.
func (b *books) expend(from int, l []api.Line) (bool, api.Errno) {
	var all []api.DocLine
	for _, x := range l {
		all = append(all, spent(x.Node, x.Amount)...)
	}
	if from > 0 {
		taken, err := b.take(from, l)
		if err != api.OK {
			return false, err
		}
		all = taken
	}
	warned := false
	for _, x := range all {
		less := 0
		if from > 0 {
			less = x.Original
		}
		warns, err := b.charge(x.Node, 0, -less, x.Original)
		if err != api.OK {
			return false, err
		}
		warned = warned || warns
	}
	b.doc(api.DocExp, from, all...)
	var l2 []api.Line
	for _, x := range all {
		n := b.nodes[x.Node-1]
		l2 = append(l2, api.Line{Fund: n.Fund, Object: n.Object, Amount: x.Original}, api.Line{Fund: n.Fund, Object: cash, Amount: -x.Original})
	}
	b.post(b.lastDoc, l2...)
	return warned, api.OK
}

// P33.1, P33.2: long lives on a disk, held against tables.
func TestMany(t *testing.T) {
	done := map[api.Errno]int{}
	over, warnings := 0, 0
	for seed := range 10 {
		d, _ := disk.New(901)
		k, err := kv.Format(d)
		if err != api.OK {
			t.Fatalf("Format: %d", err)
		}
		v := view.New(k)
		years.Open(v, 2020)
		now := &books{}
		for id := 1; id <= 7; id++ {
			n := node(id, id/2, 90*(8-id)+seed, (id+seed)%2 > 0)
			// Some have a fund, and some an object, together.
			n.Fund, n.Object = 100+id%3, 5000+id%4
			now.nodes = append(now.nodes, n)
		}
		stand(t, v, now.nodes...)
		rand := uint32(seed + 1)
		next := func(n int) int {
			rand = rand*1664525 + 1013904223
			return int(rand>>8) % n
		}
		for range 140 {
			commit(t, v)
			l := of()
			for range 1 + next(3) {
				l = append(l, of(1+next(8), 1+next(20))...)
			}
			after := now.clone()
			kind := 1 + next(4)
			if kind < api.DocExp {
				var err api.Errno
				if kind == api.DocPre {
					_, _, err = pre.New(v, 2020, l)
				} else {
					_, _, err = enc.New(v, 2020, 0, l)
				}
				if err != api.OK {
					v.Abort()
					continue
				}
				after.open(kind, l)
				now = after
				has(t, v, now)
				continue
			}
			from := next(3) * (1 + next(len(now.docs)+1)) / 2
			for range 3 {
				if from > 0 && from <= now.lastDoc && now.docs[from-1].Kind != api.DocEnc {
					from = 1 + next(now.lastDoc)
				}
			}
			if from > 0 {
				for i := range l {
					l[i] = api.Line{Node: next(5) / 2, Amount: 1 + next(6)}
				}
			}
			warned, want := after.expend(from, l)
			done[want]++
			if want != api.OK {
				refused(t, v, 2020, from, l, want)
				v.Abort()
				has(t, v, now)
				continue
			}
			expend(t, v, from, l, after.lastDoc, warned)
			now = after
			has(t, v, now)
			level(t, v, now)
			if from > 0 {
				over++
			}
			if warned {
				warnings++
			}
		}
	}
	if over < 50 || warnings < 20 || done[api.ErrNone] < 50 || done[api.ErrState] < 50 || done[api.ErrLimit] < 50 {
		t.Errorf("only so much was done: %d over, %d warnings, %v", over, warnings, done)
	}
}

// level looks that what nodes have spent, without what is spent below them, stands in the balances, and that those are level.
func level(t *testing.T, v *view.View, b *books) {
	t.Helper()
	sums := map[[2]int]int{}
	for _, n := range b.nodes {
		own := n.Exp
		for _, kid := range tree.Kids(v, 2020, n.ID) {
			own -= kid.Exp
		}
		sums[[2]int{n.Fund, n.Object}] += own
		sums[[2]int{n.Fund, cash}] -= own
	}
	for account, sum := range sums {
		if got := bal.Get(v, 2020, account[0], account[1]); got != sum {
			t.Errorf("the balance of %v is %d, not %d", account, got, sum)
		}
	}
	if !trial.Right(v, 2020) {
		t.Errorf("%v is not level", trial.Sums(v, 2020))
	}
}

// P33.1, P33.2: the view is changed, and nothing below it till its Commit.
func TestOnDisk(t *testing.T) {
	d, _ := disk.New(201)
	k, err := kv.Format(d)
	if err != api.OK {
		t.Fatalf("Format: %d", err)
	}
	v := view.New(k)
	n := node(1, 0, 10, true)
	years.Open(v, 2020)
	stand(t, v, n)
	encumber(t, v, 0, of(1, 8), 1)
	commit(t, v)
	was := &books{nodes: []api.Node{grown(n, 8, 0)}}
	was.doc(2, 0, fresh(1, 8)...)
	expend(t, v, 1, of(0, 5), 2, false)
	has(t, view.New(k), was)
	v.Abort()
	has(t, v, was)
	expend(t, v, 1, of(0, 5), 2, false)
	commit(t, v)
	now := &books{nodes: []api.Node{grown(n, 3, 5)}}
	now.doc(2, 0, api.DocLine{Node: 1, Original: 8, Liquidated: 5})
	now.doc(3, 1, spent(1, 5)...)
	now.post(2, paid(1, 5)...)
	has(t, view.New(k), now)

	// What is refused behind its first line goes with an Abort.
	refused(t, v, 2020, 0, of(1, 1, 1, 2), api.ErrLimit)
	v.Abort()
	has(t, v, now)

	// In a view whose store met an error there is no year, and no node.
	d.Arm(0)
	d.Write(0, make([]byte, api.Sector))
	refused(t, v, 2020, 0, of(1, 1), api.ErrNone)
	lines(t, v, 2020, fresh(1, 1))
	if err := v.Err(); err != api.ErrDown {
		t.Errorf("Err: %d", err)
	}
}

// P33.1, R5: in a view that no call made there is no year, and no node.
func TestNoView(t *testing.T) {
	for _, v := range []*view.View{nil, {}} {
		for _, l := range [][]api.Line{nil, of(1, 1), of(1, 0)} {
			untouched(t, v, 2020, 0, l, api.ErrNone)
			untouched(t, v, 2020, 1, l, api.ErrNone)
		}
		lines(t, v, 2020, fresh(1, 1))
	}
}

// R3: what is handed in stays, its spare room too, and what is answered may be changed.
func TestNothingShared(t *testing.T) {
	v := with(t, node(1, 0, 900, true))
	room := many(5)
	expend(t, v, 0, room[:2], 1, false)
	encumber(t, v, 0, of(1, 10, 1, 20), 2)
	places := of(0, 3, 1, 4, 0, 5)
	expend(t, v, 2, places[:2], 3, false)
	l := fresh(1, 3, 1, 4, 1, 5)
	got := Lines(v, 2020, l[:2])
	if !slices.Equal(room, many(5)) || !slices.Equal(places, of(0, 3, 1, 4, 0, 5)) || !slices.Equal(l, fresh(1, 3, 1, 4, 1, 5)) {
		t.Errorf("the lines are %v, %v and %v now", room, places, l)
	}
	clear(room)
	clear(places)
	clear(got[:cap(got)])
	all := &books{nodes: []api.Node{grown(node(1, 0, 900, true), 23, 10)}}
	all.doc(3, 0, spent(1, 1, 1, 2)...)
	all.doc(2, 0, api.DocLine{Node: 1, Original: 10, Liquidated: 3}, api.DocLine{Node: 1, Original: 20, Liquidated: 4})
	all.doc(3, 2, spent(1, 3, 1, 4)...)
	all.post(1, paid(1, 1, 1, 2)...)
	all.post(3, paid(1, 3, 1, 4)...)
	has(t, v, all)
}
