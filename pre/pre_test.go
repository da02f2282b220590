package pre

import (
	"bytes"
	"math"
	"slices"
	"testing"

	"exchequer/api"
	"exchequer/disk"
	"exchequer/docs"
	"exchequer/field"
	"exchequer/keys"
	"exchequer/kv"
	"exchequer/recs"
	"exchequer/tree"
	"exchequer/view"
	"exchequer/years"
)

const (
	top = 1<<32 - 1
	// mostLines, most and bound are MaxLines, MaxAmount and 2^60, written out.
	mostLines = 6
	most      = 9007199254740992
	bound     = 1152921504606846976
)

// node is one of 2020 with a limit; of the other numbers each is known from the others.
func node(id, parent, limit int, absolute bool) api.Node {
	return api.Node{Year: 2020, ID: id, Parent: parent, Fund: 100 + id, Object: 5000 + id, Absolute: absolute, Limit: limit, Enc: 20, Exp: 10, Lapsed: 70 + id, Carried: 80 + id}
}

// grown is a node with more pre-encumbered.
func grown(n api.Node, more int) api.Node {
	n.Pre += more
	return n
}

// with is a view in which 2020 is open, and has these nodes.
func with(t *testing.T, l ...api.Node) *view.View {
	t.Helper()
	v := view.New(nil)
	if err := years.Open(v, 2020); err != api.OK {
		t.Fatalf("Open: %d", err)
	}
	stand(t, v, l...)
	return v
}

func stand(t *testing.T, v *view.View, l ...api.Node) {
	t.Helper()
	for _, n := range l {
		if err := tree.Put(v, n); err != api.OK {
			t.Fatalf("Put %v: %d", n, err)
		}
	}
}

// count lets a document's ID be the last one that was given out.
func count(t *testing.T, v *view.View, last int) {
	t.Helper()
	if err := v.Put(keys.Key('S', 2), field.Pack(last)); err != api.OK {
		t.Fatalf("Put: %d", err)
	}
}

// of are lines of a command: nodes with their amounts.
func of(nums ...int) []api.Line {
	var l []api.Line
	for at := 0; at < len(nums); at += 2 {
		l = append(l, api.Line{Node: nums[at], Amount: nums[at+1]})
	}
	return l
}

// many are n lines of amounts that may be.
func many(n int) []api.Line {
	var l []api.Line
	for i := range n {
		l = append(l, api.Line{Node: 1, Amount: 1 + i})
	}
	return l
}

// made is a document as it stands behind New, with its lines.
func made(id int, nums ...int) []api.Pair {
	all := []api.Pair{recs.Doc(api.Doc{ID: id, Kind: api.DocPre, Year: 2020, Lines: len(nums) / 2})}
	for line, x := range of(nums...) {
		all = append(all, recs.DocLine(id, line, api.DocLine{Node: x.Node, Original: x.Amount}))
	}
	return all
}

func byKey(a, b api.Pair) int { return bytes.Compare(a.Key, b.Key) }

func samePair(a, b api.Pair) bool {
	return bytes.Equal(a.Key, b.Key) && bytes.Equal(a.Value, b.Value)
}

// has looks that just these pairs, in any order, stand in a view, and just these nodes, 2020, and the last ID.
func has(t *testing.T, v *view.View, last int, made []api.Pair, nodes ...api.Node) {
	t.Helper()
	want := slices.Clone(made)
	want = append(want, api.Pair{Key: keys.Key('Y', 2020), Value: field.Pack(api.YearOpen)})
	if last != 0 {
		want = append(want, api.Pair{Key: keys.Key('S', 2), Value: field.Pack(last)})
	}
	for _, n := range nodes {
		want = append(want, recs.Node(n))
	}
	slices.SortFunc(want, byKey)
	if got := v.Scan(nil); !slices.EqualFunc(got, want, samePair) {
		t.Errorf("there stand %v, not %v", got, want)
	}
}

// reserve looks what is answered of lines in 2020.
func reserve(t *testing.T, v *view.View, l []api.Line, want int, wantWarned bool) {
	t.Helper()
	if id, warned, err := New(v, 2020, l); id != want || warned != wantWarned || err != api.OK {
		t.Errorf("New %v: %d, %t, %d, not %d, %t", l, id, warned, err, want, wantWarned)
	}
}

// refused looks that a pre-encumbrance is.
func refused(t *testing.T, v *view.View, year int, l []api.Line, want api.Errno) {
	t.Helper()
	if id, warned, err := New(v, year, l); id != 0 || warned || err != want {
		t.Errorf("New %d %v: %d, %t, %d, not %d", year, l, id, warned, err, want)
	}
}

// untouched looks that one is refused, and that nothing is changed by it.
func untouched(t *testing.T, v *view.View, year int, l []api.Line, want api.Errno) {
	t.Helper()
	before := v.Scan(nil)
	refused(t, v, year, l, want)
	if got := v.Scan(nil); !slices.EqualFunc(got, before, samePair) {
		t.Errorf("behind New %d %v there stand %v, not %v", year, l, got, before)
	}
}

func check(t *testing.T, l []api.Line, want api.Errno) {
	t.Helper()
	if err := Check(l); err != want {
		t.Errorf("Check %v: %d, not %d", l, err, want)
	}
}

// P31.1: 1 to MaxLines lines, with the chapter's example.
func TestCheckCount(t *testing.T) {
	check(t, nil, api.ErrArg)
	check(t, []api.Line{}, api.ErrArg)
	for n := 1; n <= mostLines; n++ {
		check(t, many(n), api.OK)
	}
	for _, n := range []int{mostLines + 1, mostLines + 2, 100, 256, 257, 1000} {
		check(t, many(n), api.ErrArg)
	}
}

// P31.1: each line has a Right Amount, wherever it stands.
func TestCheckAmounts(t *testing.T) {
	for n := 1; n <= mostLines; n++ {
		for at := range n {
			l := many(n)
			for _, l[at].Amount = range []int{1, 2, most - 1, most} {
				check(t, l, api.OK)
			}
			for _, l[at].Amount = range []int{0, -1, -most, most + 1, 2 * most, 1 << 60, 1<<32 + most, math.MinInt, math.MaxInt} {
				check(t, l, api.ErrArg)
			}
		}
	}
}

// P31.1: of lines their Amounts count alone.
func TestCheckOthers(t *testing.T) {
	for _, n := range []int{0, -1, 1, top, math.MinInt, math.MaxInt} {
		check(t, []api.Line{{Fund: n, Amount: 1}, {Object: n, Amount: 1}, {Node: n, Amount: 1}, {Fund: n, Object: n, Node: n, Amount: 1}}, api.OK)
		check(t, []api.Line{{Fund: n, Object: n, Node: n}}, api.ErrArg)
	}
}

// P31.1: the nodes, and those above them, have more pre-encumbered; the document stands with its lines.
func TestNew(t *testing.T) {
	a, b, c, d := node(1, 0, 900, true), node(2, 1, 400, true), node(3, 1, 300, false), node(4, 2, 100, true)
	v := with(t, a, b, c, d)
	reserve(t, v, of(4, 7), 1, false)
	has(t, v, 1, made(1, 4, 7), grown(a, 7), grown(b, 7), c, grown(d, 7))
	reserve(t, v, of(2, 10, 3, 20, 1, 30), 2, false)
	both := append(made(1, 4, 7), made(2, 2, 10, 3, 20, 1, 30)...)
	has(t, v, 2, both, grown(a, 67), grown(b, 17), grown(c, 20), grown(d, 7))
	d2, l, ok := docs.Get(v, 2)
	if want := (api.Doc{ID: 2, Kind: 1, Year: 2020, From: 0, Lines: 3}); d2 != want || !ok {
		t.Errorf("Get: %v, %t", d2, ok)
	}
	if want := []api.DocLine{{Node: 2, Original: 10}, {Node: 3, Original: 20}, {Node: 1, Original: 30}}; !slices.Equal(l, want) {
		t.Errorf("its lines are %v", l)
	}
}

// P31.1: a node may be that of some lines, and each line counts.
func TestNewTwice(t *testing.T) {
	a, b := node(1, 0, 100, true), node(2, 1, 100, true)
	v := with(t, a, b)
	reserve(t, v, of(2, 5, 2, 5, 1, 3, 2, 6, 1, 3, 2, 5), 1, false)
	has(t, v, 1, made(1, 2, 5, 2, 5, 1, 3, 2, 6, 1, 3, 2, 5), grown(a, 27), grown(b, 21))
}

// P31.1: of a line Fund and Object count for nothing.
func TestNewOthers(t *testing.T) {
	a, b := node(1, 0, 100, true), node(2, 0, 100, true)
	v := with(t, a, b)
	reserve(t, v, []api.Line{{Fund: 2, Object: -9, Node: 1, Amount: 4}, {Fund: math.MaxInt, Object: 2, Node: 1, Amount: 5}}, 1, false)
	has(t, v, 1, made(1, 1, 4, 1, 5), grown(a, 9), b)
}

// P31.1: IDs rise, and go on from the last one of any document.
func TestNewIDs(t *testing.T) {
	v := with(t, node(1, 0, bound, false))
	for id := 1; id <= 20; id++ {
		reserve(t, v, many(1+id%mostLines), id, false)
	}
	count(t, v, 76)
	reserve(t, v, many(1), 77, false)
	count(t, v, top-1)
	reserve(t, v, many(1), top, false)
	if got := docs.All(v, 2020, 1); len(got) != 22 || got[21] != top {
		t.Errorf("All: %v", got)
	}
}

// P31.1: a node's limit counts for all lines of it together; up to it nothing warns.
func TestNewLimit(t *testing.T) {
	n := node(1, 0, 40, true)
	v := with(t, n)
	refused(t, v, 2020, of(1, 11), api.ErrLimit)
	refused(t, with(t, n), 2020, of(1, 5, 1, 6), api.ErrLimit)
	v = with(t, n)
	reserve(t, v, of(1, 5, 1, 5), 1, false)
	has(t, v, 1, made(1, 1, 5, 1, 5), grown(n, 10))
	refused(t, v, 2020, of(1, 1), api.ErrLimit)
}

// P31.1, with the document's third example: a warning of any line, and of any node of its path, is told.
func TestNewWarned(t *testing.T) {
	for beyond := range 16 {
		var l, want []api.Node
		for i := range 4 {
			n := node(1+i, 0, 36, false)
			if beyond>>i&1 == 1 {
				n.Limit = 35
			}
			l = append(l, n)
			want = append(want, grown(n, 6))
		}
		v := with(t, l...)
		reserve(t, v, of(1, 6, 2, 6, 3, 6, 4, 6), 1, beyond != 0)
		has(t, v, 1, made(1, 1, 6, 2, 6, 3, 6, 4, 6), want...)
	}
	for _, limits := range [][3]int{{30, 99, 99}, {99, 30, 99}, {99, 99, 30}} {
		a, b, c := node(1, 0, limits[0], false), node(2, 1, limits[1], false), node(3, 2, limits[2], false)
		v := with(t, a, b, c)
		reserve(t, v, of(3, 1), 1, true)
		has(t, v, 1, made(1, 3, 1), grown(a, 1), grown(b, 1), grown(c, 1))
	}
}

// P31.1: only in a year that is open, whatever the lines are.
func TestNewYear(t *testing.T) {
	for _, l := range [][]api.Line{of(1, 1), of(9, 1), of(1, 0), nil, many(mostLines + 1)} {
		v := with(t, node(1, 0, 100, true))
		for _, year := range []int{2019, 2021, 0, -2020, 1<<32 + 2020, math.MinInt, math.MaxInt} {
			untouched(t, v, year, l, api.ErrNone)
		}
		if err := years.Shut(v, 2020); err != api.OK {
			t.Fatalf("Shut: %d", err)
		}
		untouched(t, v, 2020, l, api.ErrClosed)
	}
	// Each year has its own nodes and documents.
	n, other := node(1, 0, 100, true), node(1, 0, 100, true)
	other.Year = 2021
	v := with(t, n, other)
	if err := years.Open(v, 2021); err != api.OK {
		t.Fatalf("Open: %d", err)
	}
	if id, warned, err := New(v, 2021, of(1, 9)); id != 1 || warned || err != api.OK {
		t.Errorf("New in 2021: %d, %t, %d", id, warned, err)
	}
	d, _, _ := docs.Get(v, 1)
	if want := (api.Doc{ID: 1, Kind: 1, Year: 2021, Lines: 1}); d != want {
		t.Errorf("the document is %v", d)
	}
	for _, want := range []api.Node{n, grown(other, 9)} {
		if got, _ := tree.Get(v, want.Year, 1); got != want {
			t.Errorf("the node is %v, not %v", got, want)
		}
	}
}

// P31.1: Check's error is ahead of any line's own.
func TestNewCheck(t *testing.T) {
	v := with(t, node(1, 0, 0, true))
	for _, l := range [][]api.Line{nil, {}, many(mostLines + 1), of(1, 0), of(1, -1), of(1, most+1), of(9, 0), of(9, 1, 9, 0), of(1, 1, 1, 0), of(1, math.MaxInt), of(1, math.MinInt)} {
		untouched(t, v, 2020, l, api.ErrArg)
	}
}

// P31.1: the first line with an error tells it.
func TestNewCharge(t *testing.T) {
	free, tight, odd := node(1, 0, 100, false), node(2, 0, 0, true), node(3, 0, 100, true)
	odd.Enc = -1
	for _, c := range []struct {
		l    []api.Line
		want api.Errno
	}{
		{of(9, 1), api.ErrNone}, {of(0, 1), api.ErrNone}, {of(-1, 1), api.ErrNone}, {of(1<<32+1, 1), api.ErrNone},
		{of(2, 1), api.ErrLimit}, {of(3, 1), api.ErrRange},
		{of(1, 1, 9, 1), api.ErrNone}, {of(1, 1, 2, 1), api.ErrLimit}, {of(1, 1, 3, 1), api.ErrRange}, {of(1, 200, 3, 1), api.ErrRange},
		{of(9, 1, 2, 1, 3, 1), api.ErrNone}, {of(2, 1, 9, 1, 3, 1), api.ErrLimit}, {of(3, 1, 9, 1, 2, 1), api.ErrRange},
		{of(1, 1, 1, 1, 1, 1, 1, 1, 1, 1, 2, 1), api.ErrLimit},
	} {
		v := with(t, free, tight, odd)
		refused(t, v, 2020, c.l, c.want)
		if got := docs.Last(v); got != 0 {
			t.Errorf("behind %v an ID %d is given out", c.l, got)
		}
	}
}

// P31.1: the counter's error is the last one.
func TestNewCounter(t *testing.T) {
	for _, last := range []int{-1, math.MinInt, top, top + 1, math.MaxInt} {
		v := with(t, node(1, 0, 100, false), node(2, 0, 0, true))
		count(t, v, last)
		refused(t, v, 2020, of(2, 1), api.ErrLimit)
		refused(t, v, 2020, of(9, 1), api.ErrNone)
		refused(t, v, 2020, nil, api.ErrArg)
		refused(t, v, 2021, of(1, 1), api.ErrNone)
		refused(t, v, 2020, of(1, 200), api.ErrRange)
	}
}

// P31.1: the highest amounts, up to what a node may hold.
func TestNewMost(t *testing.T) {
	n := node(1, 0, bound, true)
	n.Enc, n.Exp = 0, 0
	n.Pre = bound - 3*most
	v := with(t, n)
	reserve(t, v, of(1, most, 1, most), 1, false)
	refused(t, v, 2020, of(1, most, 1, 1), api.ErrRange)
	v = with(t, n)
	reserve(t, v, of(1, most, 1, most, 1, most), 1, false)
	has(t, v, 1, made(1, 1, most, 1, most, 1, most), grown(n, 3*most))
	untouched(t, v, 2020, of(1, 1), api.ErrRange)
}

// P31.1, P31.2: a long life, held against its nodes in a table. All that was pre-encumbered is open, and each node has it.
func TestMany(t *testing.T) {
	for seed := range 10 {
		var now []api.Node
		for id := 1; id <= 7; id++ {
			now = append(now, node(id, id/2, 150*(8-id)+seed, (id+seed)%3 > 0))
		}
		k, _ := disk.New(301)
		store, err := kv.Format(k)
		if err != api.OK {
			t.Fatalf("Format: %d", err)
		}
		v := view.New(store)
		years.Open(v, 2020)
		stand(t, v, now...)
		var all []api.Pair
		last := 0
		rand := uint32(seed + 1)
		next := func(n int) int {
			rand = rand*1664525 + 1013904223
			return int(rand>>8) % n
		}
		for range 80 {
			commit(t, v)
			after, warned, want := slices.Clone(now), false, api.OK
			var nums []int
			for range 1 + next(4) {
				id, by := 1+next(7), 1+next(30)
				nums = append(nums, id, by)
				for at := id; at > 0 && want == api.OK; at /= 2 {
					n := grown(after[at-1], by)
					after[at-1] = n
					switch beyond := n.Pre+n.Enc+n.Exp > n.Limit; {
					case beyond && n.Absolute:
						want = api.ErrLimit
					case beyond:
						warned = true
					}
				}
			}
			if want != api.OK {
				refused(t, v, 2020, of(nums...), want)
				v.Abort()
				has(t, v, last, all, now...)
				continue
			}
			last++
			reserve(t, v, of(nums...), last, warned)
			now = after
			all = append(all, made(last, nums...)...)
			has(t, v, last, all, now...)
		}
		if last < 10 {
			t.Errorf("only %d were made", last)
		}
		open(t, v, now)
	}
}

// open looks that what lines of nodes have open, with what is below, is what each has pre-encumbered.
func open(t *testing.T, v *view.View, nodes []api.Node) {
	t.Helper()
	sums := make([]int, len(nodes)+1)
	for _, id := range docs.All(v, 2020, api.DocPre) {
		_, l, _ := docs.Get(v, id)
		for _, x := range l {
			if !docs.Right(x) || docs.Open(x) != x.Original {
				t.Errorf("%v is not open", x)
			}
			for at := x.Node; at > 0; at /= 2 {
				sums[at] += docs.Open(x)
			}
		}
	}
	for _, n := range nodes {
		if sums[n.ID] != n.Pre {
			t.Errorf("%d is open of %v", sums[n.ID], n)
		}
	}
}

func commit(t *testing.T, v *view.View) {
	t.Helper()
	if err := v.Commit(); err != api.OK {
		t.Fatalf("Commit: %d", err)
	}
}

// P31.1: the view is changed, and nothing below it till its Commit.
func TestOnDisk(t *testing.T) {
	d, _ := disk.New(201)
	k, err := kv.Format(d)
	if err != api.OK {
		t.Fatalf("Format: %d", err)
	}
	v := view.New(k)
	a, b := node(1, 0, 40, true), node(2, 0, 31, false)
	years.Open(v, 2020)
	stand(t, v, a, b)
	commit(t, v)
	reserve(t, v, of(1, 4, 2, 5), 1, true)
	has(t, view.New(k), 0, nil, a, b)
	commit(t, v)
	now := made(1, 1, 4, 2, 5)
	has(t, view.New(k), 1, now, grown(a, 4), grown(b, 5))

	// What is refused behind its first line goes with an Abort.
	refused(t, v, 2020, of(2, 1, 1, 7), api.ErrLimit)
	v.Abort()
	has(t, v, 1, now, grown(a, 4), grown(b, 5))

	// In a view whose store met an error there is no year.
	d.Arm(0)
	d.Write(0, make([]byte, api.Sector))
	refused(t, v, 2020, of(1, 1), api.ErrNone)
	if err := v.Err(); err != api.ErrDown {
		t.Errorf("Err: %d", err)
	}
}

// P31.1, R5: in a view that no call made there is no year.
func TestNoView(t *testing.T) {
	for _, v := range []*view.View{nil, {}} {
		for _, l := range [][]api.Line{nil, of(1, 1), of(1, 0)} {
			refused(t, v, 2020, l, api.ErrNone)
		}
	}
}

// R3: what is handed in stays, its spare room too, and isn't kept.
func TestNothingShared(t *testing.T) {
	n := node(1, 0, 900, true)
	v := with(t, n)
	room := many(5)
	check(t, room[:2], api.OK)
	reserve(t, v, room[:2], 1, false)
	if !slices.Equal(room, many(5)) {
		t.Errorf("the lines are %v now", room)
	}
	clear(room)
	has(t, v, 1, made(1, 1, 1, 1, 2), grown(n, 3))
}
