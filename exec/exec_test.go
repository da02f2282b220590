package exec

import (
	"bytes"
	"math"
	"slices"
	"testing"

	"exchequer/api"
	"exchequer/bal"
	"exchequer/chart"
	"exchequer/close"
	"exchequer/disk"
	"exchequer/docs"
	"exchequer/enc"
	"exchequer/entry"
	"exchequer/exp"
	"exchequer/field"
	"exchequer/keys"
	"exchequer/kv"
	"exchequer/pre"
	"exchequer/shift"
	"exchequer/tree"
	"exchequer/view"
	"exchequer/years"
)

// top is the last number that may stand in a key, and be given out.
const top = 1<<32 - 1

func right(t *testing.T, err api.Errno) {
	t.Helper()
	if err != api.OK {
		t.Fatalf("error %d", err)
	}
}

// begin lets a ledger stand, and commits it.
func begin(t *testing.T, v *view.View) {
	t.Helper()
	lay(t, v)
	right(t, v.Commit())
}

// lay makes a ledger by the layers themselves.
func lay(t *testing.T, v *view.View) {
	t.Helper()
	for year := 2019; year <= 2021; year++ {
		right(t, years.Open(v, year))
	}
	right(t, years.Shut(v, 2019))
	right(t, chart.NewFund(v, 100, "General"))
	right(t, chart.NewFund(v, 200, "Roads"))
	for _, object := range []int{4000, 5010, 5020} {
		right(t, chart.NewObject(v, object))
	}
	for _, n := range []api.Node{
		{Year: 2020, ID: 1, Fund: 100, Object: 5010, Absolute: true, Limit: 100},
		{Year: 2020, ID: 2, Parent: 1, Fund: 100, Object: 5010, Absolute: true, Limit: 50},
		{Year: 2020, ID: 3, Parent: 1, Fund: 200, Object: 5020, Limit: 30},
		{Year: 2020, ID: 4, Fund: 200, Object: 5020, Limit: 20},
		{Year: 2020, ID: 5, Fund: 100, Object: 5020, Absolute: true, Limit: 10},
		{Year: 2021, ID: 1, Fund: 100, Object: 5010, Absolute: true, Limit: 9},
		{Year: 2021, ID: 2, Parent: 1, Fund: 100, Object: 5010, Absolute: true, Limit: 5},
	} {
		right(t, shift.New(v, n))
	}
	_, err := entry.Put(v, api.Entry{Year: 2020, Kind: api.EntryPost}, []api.Line{{Fund: 100, Object: api.Cash, Amount: 90}, {Fund: 100, Object: 4000, Amount: -90}})
	right(t, err)
	_, _, err = pre.New(v, 2020, of(2, 10, 3, 5))
	right(t, err)
	_, _, err = enc.New(v, 2020, 0, of(2, 8, 4, 6))
	right(t, err)
	_, _, err = exp.New(v, 2020, 0, of(5, 2))
	right(t, err)
}

// ledger is a view in which that stands.
func ledger(t *testing.T) *view.View {
	t.Helper()
	v := view.New(nil)
	begin(t, v)
	return v
}

// of are lines of a document: nodes, or places, with amounts.
func of(nums ...int) []api.Line {
	var l []api.Line
	for at := 0; at < len(nums); at += 2 {
		l = append(l, api.Line{Node: nums[at], Amount: nums[at+1]})
	}
	return l
}

// amounts are lines of an entry: funds and objects with amounts.
func amounts(nums ...int) []api.Line {
	var l []api.Line
	for at := 0; at < len(nums); at += 3 {
		l = append(l, api.Line{Fund: nums[at], Object: nums[at+1], Amount: nums[at+2]})
	}
	return l
}

// like tells whether a reply has just this code, and these numbers.
func like(r api.Reply, code api.Errno, nums ...int) bool {
	return r.Code == code && slices.Equal(r.Nums, nums) && (r.Nums == nil) == (len(nums) == 0) && r.Text == ""
}

// does looks what Do replies.
func does(t *testing.T, v *view.View, c api.Cmd, code api.Errno, nums ...int) {
	t.Helper()
	if r := Do(v, c); !like(r, code, nums...) {
		t.Errorf("Do %v: %v, not %d %v", c, r, code, nums)
	}
}

func samePairs(a, b []api.Pair) bool {
	return slices.EqualFunc(a, b, func(a, b api.Pair) bool {
		return bytes.Equal(a.Key, b.Key) && bytes.Equal(a.Value, b.Value)
	})
}

// alike looks that two views will be the same.
func alike(t *testing.T, v, w *view.View) {
	t.Helper()
	if a, b := v.Scan(nil), w.Scan(nil); !samePairs(a, b) {
		t.Errorf("there stands %v, not %v", a, b)
	}
}

// odd is a command with the same of all that its kind is told of, and other things of all else.
func odd(c api.Cmd) api.Cmd {
	o := api.Cmd{Kind: c.Kind, Year: 2021, Next: 2020, Fund: 200, Object: 5020, Node: 4, Parent: 3, Doc: 2, Line: 1, Amount: 9, Absolute: true, Name: "Odd", Lines: of(4, 3)}
	switch c.Kind {
	case api.NewFund:
		o.Fund, o.Name = c.Fund, c.Name
	case api.NewObject:
		o.Object = c.Object
	case api.OpenYear:
		o.Year = c.Year
	case api.NewNode:
		o.Year, o.Node, o.Parent, o.Fund, o.Object, o.Absolute, o.Amount = c.Year, c.Node, c.Parent, c.Fund, c.Object, c.Absolute, c.Amount
	case api.Amend:
		o.Year, o.Node, o.Amount = c.Year, c.Node, c.Amount
	case api.Transfer:
		o.Year, o.Node, o.Parent, o.Amount = c.Year, c.Node, c.Parent, c.Amount
	case api.Post, api.Reserve:
		o.Year, o.Lines = c.Year, c.Lines
	case api.Reverse:
		o.Doc = c.Doc
	case api.Encumber, api.Expend:
		o.Year, o.Doc, o.Lines = c.Year, c.Doc, c.Lines
	case api.Cancel:
		o.Doc, o.Line, o.Amount = c.Doc, c.Line, c.Amount
	case api.CloseYear:
		o.Year, o.Next = c.Year, c.Next
	}
	return o
}

// done looks what Do replies of a command that is done, and that it makes just what the layer's call makes, whatever else stands in the command.
func done(t *testing.T, c api.Cmd, call func(v *view.View) api.Errno, code api.Errno, nums ...int) {
	t.Helper()
	want := ledger(t)
	was := want.Scan(nil)
	right(t, call(want))
	if samePairs(was, want.Scan(nil)) {
		t.Errorf("%v changes nothing", c)
	}
	for _, one := range []api.Cmd{c, odd(c)} {
		v := ledger(t)
		does(t, v, one, code, nums...)
		alike(t, v, want)
		// Only who calls commits it.
		v.Abort()
		if !samePairs(v.Scan(nil), was) {
			t.Errorf("Do %v has it committed", one)
		}
	}
}

// refused looks that Do refuses a command, whatever else stands in it, and that nothing of it is there behind an Abort.
func refused(t *testing.T, v *view.View, c api.Cmd, want api.Errno) {
	t.Helper()
	was := v.Scan(nil)
	for _, one := range []api.Cmd{c, odd(c)} {
		does(t, v, one, want)
		v.Abort()
		if !samePairs(v.Scan(nil), was) {
			t.Errorf("Do %v changes something", one)
		}
	}
}

// fails looks that each of some commands is refused in a ledger.
func fails(t *testing.T, want api.Errno, all ...api.Cmd) {
	t.Helper()
	v := ledger(t)
	for _, c := range all {
		refused(t, v, c, want)
	}
}

// P38.1, P38.2: a fund.
func TestNewFund(t *testing.T) {
	c := api.Cmd{Kind: api.NewFund, Fund: 300, Name: "Parks"}
	done(t, c, func(v *view.View) api.Errno { return chart.NewFund(v, 300, "Parks") }, api.OK)
	v := ledger(t)
	does(t, v, c, api.OK)
	if name, there := chart.Fund(v, 300); name != "Parks" || !there {
		t.Errorf("the fund is %q, %t", name, there)
	}
	does(t, v, c, api.ErrTwice)
	fails(t, api.ErrTwice, api.Cmd{Kind: api.NewFund, Fund: 100, Name: "Parks"})
	fails(t, api.ErrArg, api.Cmd{Kind: api.NewFund}, api.Cmd{Kind: api.NewFund, Fund: 99, Name: "Parks"}, api.Cmd{Kind: api.NewFund, Fund: 300}, api.Cmd{Kind: api.NewFund, Fund: 100, Name: "\n"})
	v = view.New(nil)
	for fund := range 40 {
		does(t, v, api.Cmd{Kind: api.NewFund, Fund: 100 + fund, Name: "Fund"}, api.OK)
	}
	right(t, v.Commit())
	refused(t, v, api.Cmd{Kind: api.NewFund, Fund: 140, Name: "Fund"}, api.ErrLimit)
}

// P38.1, P38.2: an object, and a year.
func TestNewObjectAndOpenYear(t *testing.T) {
	done(t, api.Cmd{Kind: api.NewObject, Object: 5030}, func(v *view.View) api.Errno { return chart.NewObject(v, 5030) }, api.OK)
	fails(t, api.ErrTwice, api.Cmd{Kind: api.NewObject, Object: 5010}, api.Cmd{Kind: api.NewObject, Object: api.Cash})
	fails(t, api.ErrArg, api.Cmd{Kind: api.NewObject}, api.Cmd{Kind: api.NewObject, Object: 999}, api.Cmd{Kind: api.NewObject, Object: 6000})
	v := view.New(nil)
	for object := range 60 {
		does(t, v, api.Cmd{Kind: api.NewObject, Object: 5000 + object}, api.OK)
	}
	right(t, v.Commit())
	refused(t, v, api.Cmd{Kind: api.NewObject, Object: 5060}, api.ErrLimit)

	for _, year := range []int{2000, 2018, 2022, 2099} {
		done(t, api.Cmd{Kind: api.OpenYear, Year: year}, func(v *view.View) api.Errno { return years.Open(v, year) }, api.OK)
	}
	fails(t, api.ErrTwice, api.Cmd{Kind: api.OpenYear, Year: 2019}, api.Cmd{Kind: api.OpenYear, Year: 2020})
	fails(t, api.ErrArg, api.Cmd{Kind: api.OpenYear}, api.Cmd{Kind: api.OpenYear, Year: 1999}, api.Cmd{Kind: api.OpenYear, Year: 2100}, api.Cmd{Kind: api.OpenYear, Year: -1})
}

// P38.1, P38.2: a node with each of its numbers, and with the amount as its limit.
func TestNewNode(t *testing.T) {
	makes := func(n api.Node) {
		t.Helper()
		c := api.Cmd{Kind: api.NewNode, Year: n.Year, Node: n.ID, Parent: n.Parent, Fund: n.Fund, Object: n.Object, Absolute: n.Absolute, Amount: n.Limit}
		done(t, c, func(v *view.View) api.Errno { return tree.Put(v, n) }, api.OK)
	}
	makes(api.Node{Year: 2020, ID: 6, Parent: 1, Fund: 200, Object: 5020, Absolute: true, Limit: 20})
	makes(api.Node{Year: 2020, ID: 6, Parent: 1, Fund: 100, Object: 5010})
	makes(api.Node{Year: 2020, ID: 999, Fund: 100, Object: 5020, Limit: 1 << 53})
	makes(api.Node{Year: 2021, ID: 3, Parent: 2, Fund: 200, Object: 5010, Limit: 5})
	node := func(change func(c *api.Cmd)) api.Cmd {
		c := api.Cmd{Kind: api.NewNode, Year: 2020, Node: 6, Parent: 1, Fund: 200, Object: 5020, Absolute: true, Amount: 20}
		change(&c)
		return c
	}
	fails(t, api.ErrLimit, node(func(c *api.Cmd) { c.Amount++ }), node(func(c *api.Cmd) { c.Parent, c.Amount = 2, 51 }))
	fails(t, api.ErrClosed, node(func(c *api.Cmd) { c.Year = 2019 }))
	fails(t, api.ErrTwice, node(func(c *api.Cmd) { c.Node = 5 }))
	fails(t, api.ErrNone, node(func(c *api.Cmd) { c.Year = 2018 }), node(func(c *api.Cmd) { c.Fund = 300 }), node(func(c *api.Cmd) { c.Object = 5030 }), node(func(c *api.Cmd) { c.Parent = 77 }), node(func(c *api.Cmd) { c.Parent = -1 }))
	fails(t, api.ErrArg, node(func(c *api.Cmd) { c.Node = 0 }), node(func(c *api.Cmd) { c.Node = 1000 }), node(func(c *api.Cmd) { c.Object = 4000 }), node(func(c *api.Cmd) { c.Amount = -1 }), node(func(c *api.Cmd) { c.Amount = 1<<53 + 1 }))
	// The ninth node of a path.
	v := ledger(t)
	for id := 10; id < 17; id++ {
		does(t, v, node(func(c *api.Cmd) { c.Node, c.Parent, c.Amount = id, max(id-1, 10)*min(id-10, 1), 0 }), api.OK)
	}
	does(t, v, node(func(c *api.Cmd) { c.Node, c.Parent, c.Amount = 17, 16, 0 }), api.OK)
	right(t, v.Commit())
	refused(t, v, node(func(c *api.Cmd) { c.Node, c.Parent, c.Amount = 18, 17, 0 }), api.ErrArg)
}

// amend is a command that changes a limit.
func amend(year, node, more int) api.Cmd {
	return api.Cmd{Kind: api.Amend, Year: year, Node: node, Amount: more}
}

// P38.1, P38.2: a limit that is changed, and warned of.
func TestAmend(t *testing.T) {
	amends := func(year, node, more int, code api.Errno) {
		t.Helper()
		done(t, amend(year, node, more), func(v *view.View) api.Errno {
			warned, err := shift.Amend(v, year, node, more)
			if warned != (code == api.Warned) {
				t.Errorf("Amend %d %d: %t", node, more, warned)
			}
			return err
		}, code)
	}
	amends(2020, 2, 20, api.OK)
	amends(2020, 2, -32, api.OK)
	amends(2021, 2, 3, api.OK)
	amends(2020, 4, -14, api.OK)
	amends(2020, 4, -15, api.Warned)
	amends(2020, 4, -20, api.Warned)
	fails(t, api.ErrLimit, amend(2020, 2, 21), amend(2020, 5, -9), amend(2020, 1, -21))
	fails(t, api.ErrRange, amend(2020, 4, -21), amend(2020, 4, 1<<53+1), amend(2020, 77, -1<<53-1))
	fails(t, api.ErrNone, amend(2020, 77, 1), amend(2020, 0, 1), amend(2021, 3, 1), amend(2018, 2, 1))
	fails(t, api.ErrClosed, amend(2019, 2, 1))
	// A warning counts for its command alone.
	v := ledger(t)
	does(t, v, amend(2020, 4, -15), api.Warned)
	does(t, v, amend(2020, 2, 1), api.OK)
	does(t, v, amend(2020, 4, 0), api.Warned)
	does(t, v, amend(2020, 4, -6), api.ErrRange)
	does(t, v, amend(2020, 4, 1), api.OK)
}

// transfer is a command that moves an amount from a node to another.
func transfer(year, from, to, amount int) api.Cmd {
	return api.Cmd{Kind: api.Transfer, Year: year, Node: from, Parent: to, Amount: amount}
}

// P38.1, P38.2: an amount that is moved, and warned of.
func TestTransfer(t *testing.T) {
	moves := func(from, to, amount int, code api.Errno) {
		t.Helper()
		done(t, transfer(2020, from, to, amount), func(v *view.View) api.Errno {
			warned, err := shift.Move(v, 2020, from, to, amount)
			if warned != (code == api.Warned) {
				t.Errorf("Move %d %d %d: %t", from, to, amount, warned)
			}
			return err
		}, code)
	}
	moves(2, 3, 7, api.OK)
	moves(3, 2, 25, api.OK)
	moves(3, 2, 26, api.Warned)
	moves(4, 5, 15, api.Warned)
	moves(5, 4, 8, api.OK)
	v := ledger(t)
	does(t, v, transfer(2020, 2, 3, 7), api.OK)
	two, _ := tree.Get(v, 2020, 2)
	three, _ := tree.Get(v, 2020, 3)
	if two.Limit != 43 || three.Limit != 37 {
		t.Errorf("the limits are %d, %d", two.Limit, three.Limit)
	}
	fails(t, api.ErrLimit, transfer(2020, 2, 3, 33), transfer(2020, 5, 4, 9))
	fails(t, api.ErrState, transfer(2020, 2, 4, 1), transfer(2020, 4, 3, 1))
	fails(t, api.ErrArg, transfer(2020, 2, 2, 1), transfer(2020, 2, 3, 0), transfer(2020, 2, 3, -1), transfer(2020, 77, 77, 1))
	fails(t, api.ErrNone, transfer(2020, 2, 77, 1), transfer(2020, 77, 2, 1), transfer(2018, 2, 3, 1), transfer(2021, 2, 3, 1))
	fails(t, api.ErrRange, transfer(2020, 2, 3, 51))
	fails(t, api.ErrClosed, transfer(2019, 2, 3, 1))
}

// posting is a command that posts lines.
func posting(year int, l []api.Line) api.Cmd {
	return api.Cmd{Kind: api.Post, Year: year, Lines: l}
}

// P38.1, P38.2: an entry, whose ID is told.
func TestPost(t *testing.T) {
	for _, l := range [][]api.Line{
		amounts(100, 5010, 5, 200, 4000, -5),
		amounts(100, 5010, 1<<53, 100, 4000, -1<<53),
		amounts(100, 5010, 1, 100, 5010, 2, 200, 3000, 3, 200, 1010, 4, 100, 5020, 5, 200, 4000, -15),
	} {
		for _, year := range []int{2020, 2021} {
			done(t, posting(year, l), func(v *view.View) api.Errno {
				_, err := entry.Put(v, api.Entry{Year: year, Kind: api.EntryPost}, l)
				return err
			}, api.OK, 3)
		}
	}
	// Two funds' lines are balanced by two more.
	v := ledger(t)
	does(t, v, posting(2020, amounts(100, 5010, 5, 200, 5020, -5)), api.OK, 3)
	does(t, v, posting(2020, amounts(100, 5010, 5, 100, 5020, -5)), api.OK, 4)
	e, l, there := entry.Get(v, 3)
	if !there || e != (api.Entry{ID: 3, Year: 2020, Kind: api.EntryPost, Lines: 4}) || !slices.Equal(l, amounts(100, 5010, 5, 200, 5020, -5, 100, api.DueTo, -5, 200, api.DueFrom, 5)) {
		t.Errorf("the entry is %v, %v", e, l)
	}
	if n := bal.Get(v, 2020, 100, 5010); n != 10 {
		t.Errorf("the balance is %d", n)
	}
}

// P38.1: first the year is looked at, then the lines.
func TestPostErrors(t *testing.T) {
	level := amounts(100, 5010, 5, 100, 4000, -5)
	arg := [][]api.Line{
		nil, {}, level[:1], slices.Concat(level, level, level, level[:1]),
		amounts(100, 5010, 0, 100, 4000, 0), amounts(100, 5010, 1<<53+1, 100, 4000, -1<<53-1), amounts(100, api.DueFrom, 5, 100, 4000, -5), amounts(100, 5010, 5, 100, api.DueTo, -5), amounts(300, api.DueTo, 5, 100, 4000, -6),
		{{Fund: 100, Object: 5010, Node: 1, Amount: 5}, {Fund: 100, Object: 4000, Amount: -5}},
	}
	none := [][]api.Line{amounts(300, 5010, 5, 100, 4000, -5), amounts(100, 5010, 5, 100, 4001, -6)}
	unequal := [][]api.Line{amounts(100, 5010, 5, 100, 4000, -6), amounts(100, 5010, 5, 200, 4000, 5)}
	for want, all := range map[api.Errno][][]api.Line{api.ErrArg: arg, api.ErrNone: none, api.ErrUnequal: unequal} {
		for _, l := range all {
			fails(t, want, posting(2020, l))
			fails(t, api.ErrClosed, posting(2019, l))
			fails(t, api.ErrNone, posting(2018, l), posting(0, l), posting(-2020, l), posting(math.MaxInt, l))
		}
	}
	fails(t, api.ErrClosed, posting(2019, level))
	// What the entry itself is refused for: IDs that ran out, a balance beyond what may be.
	v := ledger(t)
	right(t, v.Put(keys.Key('S', 1), field.Pack(top)))
	right(t, v.Commit())
	refused(t, v, posting(2020, level), api.ErrRange)
	v = ledger(t)
	right(t, v.Put(keys.Key('B', 2020, 100, 5010), field.Pack(api.MaxTotal-4)))
	right(t, v.Commit())
	refused(t, v, posting(2020, level), api.ErrRange)
	does(t, v, posting(2020, amounts(100, 5010, 4, 100, 4000, -4)), api.OK, 3)
}

// reverse is a command that takes an entry back.
func reverse(id int) api.Cmd {
	return api.Cmd{Kind: api.Reverse, Doc: id}
}

// P38.1, P38.2: an entry that is taken back, once.
func TestReverse(t *testing.T) {
	done(t, reverse(1), func(v *view.View) api.Errno {
		_, err := entry.Back(v, 1)
		return err
	}, api.OK, 3)
	v := ledger(t)
	does(t, v, reverse(1), api.OK, 3)
	if e, _, _ := entry.Get(v, 3); e != (api.Entry{ID: 3, Year: 2020, Kind: api.EntryReverse, Lines: 2, Of: 1}) || bal.Get(v, 2020, 100, 4000) != 0 {
		t.Errorf("the entry is %v", e)
	}
	does(t, v, reverse(1), api.ErrState)
	does(t, v, reverse(3), api.ErrState)
	fails(t, api.ErrState, reverse(2))
	fails(t, api.ErrNone, reverse(0), reverse(3), reverse(-1), reverse(1<<32+1), reverse(math.MaxInt))
	v = ledger(t)
	right(t, years.Shut(v, 2020))
	right(t, v.Commit())
	refused(t, v, reverse(1), api.ErrClosed)
}

// file is a command that makes a document.
func file(kind, year, from int, l []api.Line) api.Cmd {
	return api.Cmd{Kind: kind, Year: year, Doc: from, Lines: l}
}

// filed looks that a command makes document 4, as the layer's call does.
func filed(t *testing.T, c api.Cmd, code api.Errno) {
	t.Helper()
	done(t, c, func(v *view.View) api.Errno {
		id, warned, err := 0, false, api.OK
		switch c.Kind {
		case api.Reserve:
			id, warned, err = pre.New(v, c.Year, c.Lines)
		case api.Encumber:
			id, warned, err = enc.New(v, c.Year, c.Doc, c.Lines)
		case api.Expend:
			id, warned, err = exp.New(v, c.Year, c.Doc, c.Lines)
		}
		if id != 4 || warned != (code == api.Warned) {
			t.Errorf("%v: %d, %t", c, id, warned)
		}
		return err
	}, code, 4)
	v := ledger(t)
	does(t, v, c, code, 4)
	kinds := map[int]int{api.Reserve: api.DocPre, api.Encumber: api.DocEnc, api.Expend: api.DocExp}
	if d, _, there := docs.Get(v, 4); !there || d != (api.Doc{ID: 4, Kind: kinds[c.Kind], Year: c.Year, From: c.Doc, Lines: len(c.Lines)}) {
		t.Errorf("%v made %v", c, d)
	}
}

// P38.1, P38.2: documents of nodes, whose IDs are told, with a warning or without.
func TestDocuments(t *testing.T) {
	for _, kind := range []int{api.Reserve, api.Encumber, api.Expend} {
		filed(t, file(kind, 2020, 0, of(2, 4)), api.OK)
		filed(t, file(kind, 2020, 0, of(2, 4, 5, 8, 4, 14, 3, 1, 2, 3, 2, 2)), api.OK)
		filed(t, file(kind, 2021, 0, of(2, 5)), api.OK)
		filed(t, file(kind, 2020, 0, of(4, 15)), api.Warned)
		filed(t, file(kind, 2020, 0, of(4, 15, 2, 1)), api.Warned)
		filed(t, file(kind, 2020, 0, of(2, 1, 4, 15)), api.Warned)
		fails(t, api.ErrLimit, file(kind, 2020, 0, of(5, 9)), file(kind, 2020, 0, of(4, 15, 5, 9)))
		fails(t, api.ErrNone, file(kind, 2020, 0, of(77, 1)), file(kind, 2020, 0, of(2, 1, 0, 1)), file(kind, 2018, 0, of(2, 1)), file(kind, 2018, 0, nil))
		fails(t, api.ErrClosed, file(kind, 2019, 0, of(2, 1)), file(kind, 2019, 0, nil))
		fails(t, api.ErrArg, file(kind, 2020, 0, nil), file(kind, 2020, 0, of(2, 0)), file(kind, 2020, 0, of(77, -1)), file(kind, 2020, 0, of(2, 1<<53+1)), file(kind, 2020, 0, of(2, 1, 2, 1, 2, 1, 2, 1, 2, 1, 2, 1, 2, 1)))
	}
	// A pre-encumbrance is from none, whatever the command tells.
	v := ledger(t)
	for _, from := range []int{1, 2, 77, -1} {
		does(t, v, file(api.Reserve, 2020, from, of(2, 1)), api.OK, docs.Last(v)+1)
		if d, _, _ := docs.Get(v, docs.Last(v)); d.From != 0 {
			t.Errorf("the document is %v", d)
		}
	}
}

// P38.1, P38.2: documents from others.
func TestDocumentsFrom(t *testing.T) {
	filed(t, file(api.Encumber, 2020, 1, of(0, 7)), api.OK)
	filed(t, file(api.Encumber, 2020, 1, of(1, 5, 0, 10)), api.OK)
	filed(t, file(api.Expend, 2020, 2, of(1, 6)), api.OK)
	filed(t, file(api.Expend, 2020, 2, of(0, 3, 0, 5)), api.OK)
	for kind, from := range map[int]int{api.Encumber: 1, api.Expend: 2} {
		fails(t, api.ErrState, file(kind, 2020, from, of(0, 11)), file(kind, 2020, 3-from, of(0, 1)), file(kind, 2020, 3, of(0, 1)), file(kind, 2021, from, of(0, 1)))
		fails(t, api.ErrNone, file(kind, 2020, from, of(2, 1)), file(kind, 2020, 4, of(0, 1)), file(kind, 2020, -1, of(0, 1)), file(kind, 2018, from, of(0, 1)))
		fails(t, api.ErrArg, file(kind, 2020, from, nil), file(kind, 2020, from, of(0, 0)))
		fails(t, api.ErrClosed, file(kind, 2019, from, of(0, 1)))
	}
	// A limit that was made smaller warns of what goes over, too.
	for _, c := range []struct{ node, more, kind, from, place int }{{3, -26, api.Encumber, 1, 1}, {4, -15, api.Expend, 2, 1}} {
		v := ledger(t)
		does(t, v, amend(2020, c.node, c.more), api.Warned)
		does(t, v, file(c.kind, 2020, c.from, of(c.place, 1)), api.OK, 4)
		does(t, v, file(c.kind, 2020, 0, of(c.node, 1)), api.Warned, 5)
	}
	// The document's whole way: from what is pre-encumbered to what is spent.
	v := ledger(t)
	does(t, v, file(api.Reserve, 2020, 0, of(5, 8)), api.OK, 4)
	does(t, v, file(api.Encumber, 2020, 4, of(0, 7)), api.OK, 5)
	does(t, v, file(api.Expend, 2020, 5, of(0, 4)), api.OK, 6)
	if n, _ := tree.Get(v, 2020, 5); n.Pre != 1 || n.Enc != 3 || n.Exp != 6 || bal.Get(v, 2020, 100, 5020) != 6 {
		t.Errorf("the node is %v", n)
	}
	does(t, v, cancel(4, 0, 1), api.OK)
	does(t, v, cancel(5, 0, 3), api.OK)
	if n, _ := tree.Get(v, 2020, 5); tree.Used(n) != 6 {
		t.Errorf("the node is %v", n)
	}
}

// cancel is a command that takes back what a line has open.
func cancel(doc, line, amount int) api.Cmd {
	return api.Cmd{Kind: api.Cancel, Doc: doc, Line: line, Amount: amount}
}

// P38.1, P38.2: what is cancelled.
func TestCancel(t *testing.T) {
	for _, c := range []api.Cmd{cancel(1, 0, 10), cancel(1, 1, 5), cancel(1, 1, 1), cancel(2, 0, 8), cancel(2, 1, 6)} {
		done(t, c, func(v *view.View) api.Errno { return shift.Cancel(v, c.Doc, c.Line, c.Amount) }, api.OK)
	}
	v := ledger(t)
	does(t, v, cancel(1, 1, 2), api.OK)
	if _, l, _ := docs.Get(v, 1); len(l) != 2 || l[1] != (api.DocLine{Node: 3, Original: 5, Cancelled: 2}) {
		t.Errorf("the lines are %v", l)
	}
	fails(t, api.ErrState, cancel(1, 1, 6), cancel(2, 0, 9), cancel(3, 0, 1), cancel(3, 0, 2))
	fails(t, api.ErrNone, cancel(1, 2, 1), cancel(1, -1, 1), cancel(4, 0, 1), cancel(0, 0, 1), cancel(-1, 0, 1))
	fails(t, api.ErrArg, cancel(1, 1, 0), cancel(1, 1, -1), cancel(77, 77, 1<<53+1))
	v = ledger(t)
	right(t, years.Shut(v, 2020))
	right(t, v.Commit())
	refused(t, v, cancel(1, 1, 1), api.ErrClosed)
	refused(t, v, cancel(3, 0, 1), api.ErrClosed)
}

// shut is a command that closes a year.
func shut(year, next int) api.Cmd {
	return api.Cmd{Kind: api.CloseYear, Year: year, Next: next}
}

// P38.1, P38.2: a year that is closed; nothing of it goes any more.
func TestCloseYear(t *testing.T) {
	done(t, shut(2020, 2021), func(v *view.View) api.Errno { return close.Close(v, 2020, 2021) }, api.OK)
	v := ledger(t)
	refused(t, v, shut(2020, 2022), api.ErrNone)
	refused(t, v, shut(2018, 2020), api.ErrNone)
	refused(t, v, shut(2019, 2020), api.ErrClosed)
	refused(t, v, shut(2020, 2019), api.ErrClosed)
	refused(t, v, shut(2020, 2020), api.ErrArg)
	refused(t, v, shut(2021, 2020), api.ErrArg)
	does(t, v, shut(2020, 2021), api.OK)
	right(t, v.Commit())
	if n, _ := tree.Get(v, 2020, 2); n.Carried != 8 || n.Lapsed != 42 || bal.Get(v, 2020, 100, api.Equity) != -88 {
		t.Errorf("the node is %v", n)
	}
	for _, c := range []api.Cmd{
		{Kind: api.NewNode, Year: 2020, Node: 7, Fund: 100, Object: 5010}, amend(2020, 2, 1), transfer(2020, 2, 3, 1), posting(2020, amounts(100, 5010, 5, 100, 4000, -5)), reverse(1),
		file(api.Reserve, 2020, 0, of(2, 1)), file(api.Encumber, 2020, 1, of(0, 1)), file(api.Expend, 2020, 2, of(0, 1)), cancel(2, 0, 1), shut(2020, 2021),
	} {
		refused(t, v, c, api.ErrClosed)
	}
	does(t, v, posting(2021, amounts(100, 5010, 5, 100, 4000, -5)), api.OK, entry.Last(v)+1)
	does(t, v, file(api.Expend, 2021, 4, of(0, 8)), api.OK, 5)
	// A node that stands otherwise in the next year.
	v = ledger(t)
	right(t, tree.Put(v, api.Node{Year: 2021, ID: 2, Fund: 100, Object: 5010, Absolute: true, Limit: 5}))
	right(t, v.Commit())
	refused(t, v, shut(2020, 2021), api.ErrState)
}

// P38.1: kinds that are not known, and those that ask, are not done here.
func TestOthers(t *testing.T) {
	for _, kind := range []int{0, -1, 21, 22, 255, 256 + 1, 1<<32 + 1, math.MinInt, math.MaxInt} {
		fails(t, api.ErrBad, api.Cmd{Kind: kind}, api.Cmd{Kind: kind, Year: 2020, Fund: 100, Doc: 1, Lines: of(2, 1)})
	}
	for kind := api.AskBalance; kind <= api.AskYear; kind++ {
		fails(t, api.ErrBad, api.Cmd{Kind: kind}, api.Cmd{Kind: kind, Year: 2020, Fund: 100, Object: 4000, Node: 2, Doc: 1})
	}
}

// P38.2: what a call that is refused changes stays in the view, till who calls aborts it.
func TestRefusedStays(t *testing.T) {
	for _, kind := range []int{api.Reserve, api.Encumber, api.Expend} {
		v, want := ledger(t), ledger(t)
		was := v.Scan(nil)
		does(t, v, file(kind, 2020, 0, of(2, 4, 5, 9)), api.ErrLimit)
		switch kind {
		case api.Reserve:
			pre.New(want, 2020, of(2, 4, 5, 9))
		case api.Encumber:
			enc.New(want, 2020, 0, of(2, 4, 5, 9))
		case api.Expend:
			exp.New(want, 2020, 0, of(2, 4, 5, 9))
		}
		alike(t, v, want)
		if samePairs(v.Scan(nil), was) {
			t.Error("nothing is left in the view")
		}
		v.Abort()
		if !samePairs(v.Scan(nil), was) {
			t.Error("an Abort leaves something")
		}
	}
	// What stood in the view ahead of it, and was not committed, is neither committed nor aborted.
	v := ledger(t)
	was := v.Scan(nil)
	does(t, v, api.Cmd{Kind: api.NewFund, Fund: 300, Name: "Parks"}, api.OK)
	does(t, v, api.Cmd{Kind: api.NewFund, Fund: 300, Name: "Parks"}, api.ErrTwice)
	does(t, v, api.Cmd{}, api.ErrBad)
	if _, there := chart.Fund(v, 300); !there {
		t.Error("the fund is gone")
	}
	v.Abort()
	if !samePairs(v.Scan(nil), was) {
		t.Error("the fund is committed")
	}
}

// P38.2: of a view that no call made, and of one of a store that none made, their error and nothing else.
func TestNoView(t *testing.T) {
	for kind := -1; kind <= 22; kind++ {
		c := api.Cmd{Kind: kind, Year: 2020, Next: 2021, Fund: 300, Object: 5030, Node: 1, Parent: 2, Doc: 1, Amount: 1, Name: "Parks", Lines: of(1, 1)}
		for _, v := range []*view.View{nil, {}} {
			does(t, v, c, api.ErrNil)
			does(t, v, api.Cmd{Kind: kind}, api.ErrNil)
		}
		v := view.New(&kv.KV{})
		want := api.ErrNil
		if kind < api.NewFund || kind > api.CloseYear {
			want = api.ErrBad
		}
		does(t, v, c, want)
	}
}

// onDisk is a view of a store on a disk in which a ledger stands.
func onDisk(t *testing.T) (*disk.Disk, *view.View) {
	t.Helper()
	d, _ := disk.New(401)
	k, err := kv.Format(d)
	right(t, err)
	v := view.New(k)
	begin(t, v)
	return d, v
}

// down lets a disk go down.
func down(d *disk.Disk) {
	d.Arm(0)
	d.Write(0, make([]byte, api.Sector))
}

// step is a command with the ID that is told, if one is.
type step struct {
	c  api.Cmd
	id []int
}

// each are commands of each kind that a ledger does.
func each() []step {
	return []step{
		{api.Cmd{Kind: api.NewFund, Fund: 300, Name: "Parks"}, nil},
		{api.Cmd{Kind: api.NewObject, Object: 5030}, nil},
		{api.Cmd{Kind: api.OpenYear, Year: 2022}, nil},
		{api.Cmd{Kind: api.NewNode, Year: 2020, Node: 6, Fund: 100, Object: 5010}, nil},
		{amend(2020, 2, 1), nil},
		{transfer(2020, 2, 3, 1), nil},
		{posting(2020, amounts(100, 5010, 5, 200, 4000, -5)), []int{3}},
		{reverse(1), []int{3}},
		{file(api.Reserve, 2020, 0, of(2, 1)), []int{4}},
		{file(api.Encumber, 2020, 1, of(0, 1)), []int{4}},
		{file(api.Expend, 2020, 2, of(0, 1)), []int{4}},
		{cancel(1, 0, 1), nil},
		{shut(2020, 2021), nil},
	}
}

// P38.2: an error that the view's store meets is the reply, and nothing stands beside it; ahead of the command it is not done.
func TestErr(t *testing.T) {
	for i, one := range each() {
		if one.c.Kind != i+1 {
			t.Fatalf("%v is not of kind %d", one.c, i+1)
		}
		// The store meets it in the command.
		d, v := onDisk(t)
		was := v.Scan(nil)
		down(d)
		does(t, v, one.c, api.ErrDown)
		if err := v.Err(); err != api.ErrDown {
			t.Errorf("Err: %d", err)
		}
		// It was met ahead of it.
		d.Crash(nil)
		v.Abort()
		right(t, v.Put([]byte("x"), []byte("y")))
		down(d)
		v.Get([]byte("z"))
		d.Crash(nil)
		for _, c := range []api.Cmd{one.c, odd(one.c), {Kind: one.c.Kind}, {}, {Kind: api.AskYear}} {
			does(t, v, c, api.ErrDown)
		}
		if puts, dels := v.Changes(); !samePairs(puts, []api.Pair{{Key: []byte("x"), Value: []byte("y")}}) || dels != nil {
			t.Errorf("%v changed %v, %v", one.c, puts, dels)
		}
		// Behind an Abort it goes again.
		v.Abort()
		if !samePairs(v.Scan(nil), was) {
			t.Errorf("%v changed something", one.c)
		}
		does(t, v, one.c, api.OK, one.id...)
		right(t, v.Commit())
	}
	// What asks nothing of the store meets no error.
	d, v := onDisk(t)
	down(d)
	for _, c := range []api.Cmd{{}, {Kind: -1}, {Kind: api.AskFunds}} {
		does(t, v, c, api.ErrBad)
	}
	for _, c := range []api.Cmd{{Kind: api.NewFund}, {Kind: api.NewObject}, {Kind: api.OpenYear}, cancel(1, 0, 0)} {
		does(t, v, c, api.ErrArg)
	}
	right(t, v.Err())
	// What was done is not told, if its Commit is refused for want of room; nor is anything behind that.
	small, _ := disk.New(7)
	k, err := kv.Format(small)
	right(t, err)
	v = view.New(k)
	for year := 2000; year < 2100; year++ {
		does(t, v, api.Cmd{Kind: api.OpenYear, Year: year}, api.OK)
	}
	if err := v.Commit(); err != api.ErrFull {
		t.Fatalf("Commit: %d", err)
	}
	does(t, v, api.Cmd{Kind: api.OpenYear, Year: 2000}, api.ErrFull)
	v.Abort()
	does(t, v, api.Cmd{Kind: api.OpenYear, Year: 2000}, api.OK)
}

// P38.2: of a call that ends well though the store met an error neither the ID nor a warning is told.
func TestErrBehind(t *testing.T) {
	// The last three find all they ask for in what was changed.
	for i, c := range []api.Cmd{
		{Kind: api.NewFund, Fund: 300, Name: "Parks"}, amend(2020, 4, -15), transfer(2020, 4, 5, 15), posting(2020, amounts(100, 5010, 5, 200, 4000, -5)), file(api.Expend, 2020, 0, of(4, 15)),
		reverse(1), file(api.Reserve, 2020, 0, of(4, 15)), file(api.Encumber, 2020, 0, of(4, 15)),
	} {
		d, _ := disk.New(401)
		k, err := kv.Format(d)
		right(t, err)
		v := view.New(k)
		lay(t, v)
		down(d)
		want := Do(ledger(t), c)
		if want.Code != api.OK && want.Code != api.Warned {
			t.Errorf("Do %v: %v", c, want)
		}
		if i < 5 {
			want = api.Reply{Code: api.ErrDown}
		}
		does(t, v, c, want.Code, want.Nums...)
	}
}

// P38.2: the store of a view has what was done with a Commit alone.
func TestCommit(t *testing.T) {
	for _, one := range each() {
		d, v := onDisk(t)
		was := v.Scan(nil)
		does(t, v, one.c, api.OK, one.id...)
		is := v.Scan(nil)
		k, err := kv.Open(d)
		right(t, err)
		if !samePairs(view.New(k).Scan(nil), was) {
			t.Errorf("%v is there without a Commit", one.c)
		}
		right(t, v.Commit())
		k, err = kv.Open(d)
		right(t, err)
		if got := view.New(k).Scan(nil); samePairs(got, was) || !samePairs(got, is) {
			t.Errorf("%v is not there behind a Commit", one.c)
		}
	}
}

// P38.3: the same command at the same view, in memory or on a disk, does the same.
func TestAgain(t *testing.T) {
	for _, one := range each() {
		_, disk := onDisk(t)
		v, w := ledger(t), ledger(t)
		for _, at := range []*view.View{v, w, disk} {
			does(t, at, one.c, api.OK, one.id...)
			alike(t, at, v)
		}
		// And the same behind an Abort.
		w.Abort()
		does(t, w, one.c, api.OK, one.id...)
		alike(t, w, v)
	}
}

// R3: what is handed in stays, its spare room too, and what is answered may be changed.
func TestNothingShared(t *testing.T) {
	for _, one := range each() {
		v, want := ledger(t), ledger(t)
		does(t, want, one.c, api.OK, one.id...)
		c := one.c
		room := append(slices.Clone(c.Lines), api.Line{Fund: 1}, api.Line{Node: 2})
		kept := slices.Clone(room)
		c.Lines = room[:len(c.Lines)]
		r := Do(v, c)
		if !like(r, api.OK, one.id...) || !slices.Equal(room, kept) {
			t.Errorf("%v: %v, with lines %v", one.c, r, room)
		}
		clear(room)
		clear(r.Nums[:cap(r.Nums)])
		alike(t, v, want)
		right(t, v.Commit())
		right(t, want.Commit())
		alike(t, v, want)
	}
}

// R1: numbers of any kind are taken.
func TestAnyNumbers(t *testing.T) {
	v := ledger(t)
	was := v.Scan(nil)
	for kind := api.NewFund; kind <= api.CloseYear; kind++ {
		for _, n := range []int{-1, math.MinInt, math.MaxInt, 1 << 32, 1 << 53, 1<<32 + 2020} {
			for _, year := range []int{2020, n} {
				for _, many := range []int{0, 1, 6, 7, 256, 70000} {
					l := slices.Repeat([]api.Line{{Fund: n, Object: n, Node: n, Amount: n}}, many)
					for _, doc := range []int{0, 1, 2, n} {
						r := Do(v, api.Cmd{Kind: kind, Year: year, Next: n, Fund: n, Object: n, Node: n, Parent: n, Doc: doc, Line: n, Amount: n, Lines: l})
						// An entry may be taken back, and no other of these is done.
						wrong := kind != api.Reverse || doc != 1
						if wrong && (r.Code == api.OK || r.Code == api.Warned) || !like(r, r.Code, r.Nums...) || r.Code != api.OK && r.Nums != nil {
							t.Errorf("%d of %d, %d lines: %v", kind, n, many, r)
						}
						v.Abort()
					}
				}
			}
		}
	}
	if !samePairs(v.Scan(nil), was) {
		t.Error("the view is another one")
	}
}
