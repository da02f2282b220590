package exec

import (
	"testing"

	"exchequer/api"
	"exchequer/disk"
	"exchequer/docs"
	"exchequer/entry"
	"exchequer/kv"
	"exchequer/reply"
	"exchequer/tree"
	"exchequer/trial"
	"exchequer/view"
	"exchequer/years"
)

// life is a ledger on a disk, beside one in memory, at which the same commands are done.
type life struct {
	*view.View
	beside *view.View
	rand   uint32
	year   int
	count  map[[2]int]int // how many replies a kind had with a code
}

func (l *life) next(n int) int {
	l.rand = l.rand*1664525 + 1013904223
	return int(l.rand>>8) % n
}

// one answers one of some numbers.
func (l *life) one(nums ...int) int {
	return nums[l.next(len(nums))]
}

// some are up to three lines of nodes, or of places.
func (l *life) some(first, many, most int) []api.Line {
	var all []api.Line
	for range l.one(1, 1, 1, 2, 2, 3) {
		all = append(all, api.Line{Node: first + l.next(many), Amount: 1 + l.next(most)})
	}
	return all
}

// command answers a command that may go or not.
func (l *life) command() api.Cmd {
	c := api.Cmd{Year: l.one(l.year, l.year, l.year, l.year, l.year, l.year, l.year+1, l.year-1)}
	c.Kind = l.one(api.NewFund, api.NewObject, api.OpenYear, api.NewNode, api.NewNode, api.Amend, api.Amend, api.Transfer, api.Transfer, api.Post, api.Reverse,
		api.Reserve, api.Reserve, api.Encumber, api.Encumber, api.Expend, api.Expend, api.Cancel, api.Cancel)
	if l.next(250) == 0 {
		c.Kind = api.CloseYear
	}
	last := docs.Last(l.View)
	switch c.Kind {
	case api.NewFund:
		c.Fund, c.Name = 100*(1+l.next(4)), "Fund"
	case api.NewObject:
		c.Object = l.one(2010, 4000, 4010, 5000, 5001, api.Cash)
	case api.OpenYear:
		c.Year = l.year + l.next(3)
	case api.NewNode:
		c.Node = 1 + l.next(1+l.next(7))
		c.Parent, c.Fund, c.Object, c.Absolute = c.Node/2, 100*(1+c.Node%3), 5000+c.Node%2, c.Node%3 == 0
		c.Amount = 200 / c.Node
	case api.Amend:
		c.Node, c.Amount = 1+l.next(8), l.next(60)-30
	case api.Transfer:
		c.Node = 1 + l.next(8)
		c.Parent, c.Amount = l.one(c.Node^1, c.Node^1, 1+l.next(8)), 1+l.next(30)
	case api.Post:
		sum := 1 + l.next(90)
		c.Lines = append(amounts(100*(1+l.next(3)), l.one(api.Cash, 2010, 4000, 5001), sum), amounts(100*(1+l.next(3)), l.one(4000, 4010, api.Cash), -sum-l.next(8)/7)...)
	case api.Reverse:
		c.Doc = 1 + l.next(1+entry.Last(l.View))
	case api.Reserve:
		c.Lines = l.some(1, 7, 9)
	case api.Encumber, api.Expend:
		c.Lines = l.some(1, 7, 9)
		if l.next(2) == 0 {
			c.Doc, c.Lines = max(1, last-l.next(10)), l.some(0, 2, 5)
		}
	case api.Cancel:
		c.Doc, c.Line, c.Amount = max(1, last-l.next(20)), l.next(2), 1+l.next(9)
	case api.CloseYear:
		c.Year = l.year
		c.Next = c.Year + l.one(1, 1, 1, 2)
	}
	return c
}

// do does a command at both, and keeps it if it is done.
func (l *life) do(t *testing.T, c api.Cmd) {
	t.Helper()
	lastEntry, lastDoc, was := entry.Last(l.beside), docs.Last(l.beside), l.beyond()
	r := Do(l.View, c)
	if other := Do(l.beside, c); !reply.Same(r, other) {
		t.Errorf("Do %v: %v, and %v", c, r, other)
	}
	l.count[[2]int{c.Kind, int(r.Code)}]++
	if !reply.Done(r) {
		if r.Nums != nil {
			t.Errorf("Do %v: %v", c, r)
		}
		l.Abort()
		l.beside.Abort()
		return
	}
	right(t, l.Commit())
	right(t, l.beside.Commit())
	switch c.Kind {
	case api.Post, api.Reverse:
		l.gave(t, r, lastEntry, entry.Last(l.beside))
	case api.Reserve, api.Encumber, api.Expend:
		l.gave(t, r, lastDoc, docs.Last(l.beside))
	case api.CloseYear:
		l.year++
	default:
		if r.Nums != nil {
			t.Errorf("Do %v: %v", c, r)
		}
	}
	if is := l.beyond(); is > was && r.Code != api.Warned {
		t.Errorf("Do %v: %v, and %d nodes are beyond their limits, not %d", c, r, is, was)
	}
}

// gave looks that a reply told just the ID that was given out.
func (l *life) gave(t *testing.T, r api.Reply, was, is int) {
	t.Helper()
	if is != was+1 || !like(r, r.Code, is) {
		t.Errorf("%v, behind %d, of %d", r, was, is)
	}
}

// beyond answers how many advisory nodes of open years have used more than their limit.
func (l *life) beyond() int {
	count := 0
	for _, n := range l.open() {
		if !n.Absolute && tree.Used(n) > n.Limit {
			count++
		}
	}
	return count
}

// open answers all nodes of open years.
func (l *life) open() []api.Node {
	var all []api.Node
	for _, year := range years.All(l.beside) {
		if years.State(l.beside, year) == api.YearOpen {
			all = append(all, tree.All(l.beside, year)...)
		}
	}
	return all
}

// holds looks whether the books are as they must be, and both the same.
func (l *life) holds(t *testing.T) {
	t.Helper()
	alike(t, l.View, l.beside)
	for _, year := range years.All(l.beside) {
		if !trial.Right(l.beside, year) {
			t.Errorf("%d: %v", year, trial.Sums(l.beside, year))
		}
	}
	for _, n := range l.open() {
		if n.Absolute && tree.Used(n) > n.Limit || tree.Given(tree.Kids(l.beside, n.Year, n.ID)) > n.Limit {
			t.Errorf("%v is beyond its limit", n)
		}
	}
	for id := range docs.Last(l.beside) {
		_, all, there := docs.Get(l.beside, id+1)
		for _, x := range all {
			there = there && docs.Right(x)
		}
		if !there {
			t.Errorf("document %d has lines %v", id+1, all)
		}
	}
}

// P38.1, P38.2, P38.3: long lives, on a disk as in memory.
func TestLife(t *testing.T) {
	count := map[[2]int]int{}
	for seed := range 4 {
		d, _ := disk.New(2001)
		k, err := kv.Format(d)
		right(t, err)
		l := &life{View: view.New(k), beside: view.New(nil), rand: uint32(seed), year: 2020, count: count}
		for range 1500 {
			l.do(t, l.command())
			if l.next(100) == 0 {
				l.holds(t)
			}
			if t.Failed() {
				t.FailNow()
			}
		}
		l.holds(t)
	}
	for kind := api.NewFund; kind <= api.CloseYear; kind++ {
		all := 0
		for at, n := range count {
			if at[0] == kind {
				all += n
			}
		}
		done := count[[2]int{kind, int(api.OK)}] + count[[2]int{kind, int(api.Warned)}]
		if done < 10 || all-done < 5 {
			t.Errorf("of kind %d only %d of %d were done", kind, done, all)
		}
	}
	for _, kind := range []int{api.Amend, api.Transfer, api.Reserve, api.Encumber, api.Expend} {
		if n := count[[2]int{kind, int(api.Warned)}]; n < 5 {
			t.Errorf("only %d of kind %d were warned of", n, kind)
		}
	}
}
