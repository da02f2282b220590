package ctrl

import (
	"bytes"
	"encoding/binary"
	"math"
	"math/big"
	"slices"
	"testing"

	"exchequer/api"
	"exchequer/disk"
	"exchequer/kv"
	"exchequer/tree"
	"exchequer/view"
)

const (
	top = 1<<32 - 1
	// deepest, amount and bound are MaxTree, MaxAmount and 2^60, written out.
	deepest = 8
	amount  = 9007199254740992
	bound   = 1152921504606846976
)

// pair is what stands of a node, reworked by the library.
func pair(n api.Node) api.Pair {
	p := api.Pair{Key: []byte{'N'}}
	p.Key = binary.BigEndian.AppendUint32(p.Key, uint32(n.Year))
	p.Key = binary.BigEndian.AppendUint32(p.Key, uint32(n.ID))
	absolute := 0
	if n.Absolute {
		absolute = 1
	}
	for _, x := range []int{n.Parent, n.Fund, n.Object, absolute, n.Limit, n.Pre, n.Enc, n.Exp, n.Lapsed, n.Carried} {
		p.Value = binary.BigEndian.AppendUint64(p.Value, uint64(x))
	}
	return p
}

// node is one of 2020 with a limit; of the other numbers each is known from the others.
func node(id, parent, limit int, absolute bool) api.Node {
	return api.Node{Year: 2020, ID: id, Parent: parent, Fund: 100 + id, Object: 5000 + id, Absolute: absolute, Limit: limit, Lapsed: 70 + id, Carried: 80 + id}
}

// with is a view with nodes.
func with(t *testing.T, l ...api.Node) *view.View {
	t.Helper()
	v := view.New(nil)
	put(t, v, l...)
	return v
}

func put(t *testing.T, v *view.View, l ...api.Node) {
	t.Helper()
	for _, n := range l {
		if err := tree.Put(v, n); err != api.OK {
			t.Fatalf("Put %v: %d", n, err)
		}
	}
}

func samePair(a, b api.Pair) bool {
	return bytes.Equal(a.Key, b.Key) && bytes.Equal(a.Value, b.Value)
}

// holds looks that just these pairs stand in a view.
func holds(t *testing.T, v *view.View, want []api.Pair) {
	t.Helper()
	if got := v.Scan(nil); !slices.EqualFunc(got, want, samePair) {
		t.Errorf("there stand %v, not %v", got, want)
	}
}

// has looks that just these nodes, rising, stand in a view.
func has(t *testing.T, v *view.View, want ...api.Node) {
	t.Helper()
	var pairs []api.Pair
	for _, n := range want {
		pairs = append(pairs, pair(n))
	}
	holds(t, v, pairs)
}

// charge looks what is answered of a node of 2020.
func charge(t *testing.T, v *view.View, id, pre, enc, exp int, want bool) {
	t.Helper()
	if warned, err := Charge(v, 2020, id, pre, enc, exp); warned != want || err != api.OK {
		t.Errorf("Charge %d with %d, %d, %d: %t, %d, not %t", id, pre, enc, exp, warned, err, want)
	}
}

// refused looks that a Charge is, and that nothing is changed by it.
func refused(t *testing.T, v *view.View, year, id, pre, enc, exp int, want api.Errno) {
	t.Helper()
	before := v.Scan(nil)
	if warned, err := Charge(v, year, id, pre, enc, exp); warned || err != want {
		t.Errorf("Charge %d %d with %d, %d, %d: %t, %d, not %d", year, id, pre, enc, exp, warned, err, want)
	}
	holds(t, v, before)
}

// more is a node with these figures more.
func more(n api.Node, pre, enc, exp int) api.Node {
	n.Pre += pre
	n.Enc += enc
	n.Exp += exp
	return n
}

func allows(t *testing.T, n api.Node, by int, ok, warns bool) {
	t.Helper()
	if gotOk, gotWarns := Allows(n, by); gotOk != ok || gotWarns != warns {
		t.Errorf("Allows %v by %d: %t, %t, not %t, %t", n, by, gotOk, gotWarns, ok, warns)
	}
}

// P29.1, with the chapter's example and the document's third.
func TestAllows(t *testing.T) {
	advisory, absolute := api.Node{Limit: 5}, api.Node{Limit: 5, Absolute: true}
	allows(t, advisory, 6, true, true)
	allows(t, absolute, 6, false, false)
	for _, n := range []api.Node{advisory, absolute} {
		for _, by := range []int{5, 4, 1, 0, -1, -6, math.MinInt} {
			allows(t, n, by, true, false)
		}
	}
	allows(t, advisory, bound, true, true)
	allows(t, absolute, bound, false, false)
}

// P29.1: what is used is Pre, Enc and Exp together, and no other number.
func TestAllowsUsed(t *testing.T) {
	for _, figures := range [][3]int{{3, 0, 0}, {0, 3, 0}, {0, 0, 3}, {1, 1, 1}, {5, 2, -4}, {-9, -9, 21}} {
		n := api.Node{Year: 2020, ID: 99, Parent: 99, Fund: 99, Object: 99, Limit: 10, Pre: figures[0], Enc: figures[1], Exp: figures[2], Lapsed: 99, Carried: 99}
		allows(t, n, 7, true, false)
		allows(t, n, 8, true, true)
		n.Absolute = true
		allows(t, n, 7, true, false)
		allows(t, n, 8, false, false)
	}
}

// P29.1: what is beyond its limit already may shrink, or stay, but grow only with a warning.
func TestAllowsBeyond(t *testing.T) {
	for _, n := range []api.Node{{Limit: 5, Exp: 9}, {Limit: -5, Exp: -1}, {Limit: -1}, {Limit: -bound, Exp: bound}} {
		for _, absolute := range []bool{false, true} {
			n.Absolute = absolute
			for _, by := range []int{0, -1, -3, -bound, -bound - 1, math.MinInt} {
				allows(t, n, by, true, false)
			}
			for _, by := range []int{1, 2, bound} {
				allows(t, n, by, !absolute, !absolute)
			}
		}
	}
}

// P29.1: beyond 2^60 nothing is allowed, less of it neither.
func TestAllowsRange(t *testing.T) {
	for _, absolute := range []bool{false, true} {
		free := api.Node{Limit: bound, Exp: -bound, Absolute: absolute}
		allows(t, free, bound, true, false)
		for _, by := range []int{bound + 1, bound + 2, 2 * bound, 1 << 62, math.MaxInt} {
			allows(t, free, by, false, false)
		}
		for _, n := range []int{bound + 1, -bound - 1, 1 << 61, -1 << 61, math.MaxInt, math.MinInt} {
			for _, by := range []int{0, 1, -1, 5, bound, -bound, math.MinInt, math.MaxInt} {
				allows(t, api.Node{Limit: n, Absolute: absolute}, by, false, false)
				allows(t, api.Node{Limit: bound, Pre: n, Absolute: absolute}, by, false, false)
				allows(t, api.Node{Limit: bound, Enc: n, Absolute: absolute}, by, false, false)
				allows(t, api.Node{Limit: bound, Exp: n, Absolute: absolute}, by, false, false)
			}
		}
		allows(t, api.Node{Limit: bound, Pre: bound, Enc: 1, Absolute: absolute}, -1, false, false)
		allows(t, api.Node{Limit: bound, Pre: bound, Enc: 1, Exp: -1, Absolute: absolute}, -1, true, false)
		// Together they are 0 modulo 2^64.
		allows(t, api.Node{Limit: 1, Pre: math.MinInt, Enc: math.MinInt, Absolute: absolute}, 1, true, false)
	}
}

// allowed is what P29.1 says, with numbers of any size.
func allowed(used, limit, by int, absolute bool) (bool, bool) {
	if by > bound || used < -bound || used > bound || limit < -bound || limit > bound {
		return false, false
	}
	sum := new(big.Int).Add(big.NewInt(int64(used)), big.NewInt(int64(by)))
	if by < 1 || sum.Cmp(big.NewInt(int64(limit))) <= 0 {
		return true, false
	}
	return !absolute, !absolute
}

// P29.1: figures around all edges, with each other.
func TestAllowsEdges(t *testing.T) {
	var edges []int
	for _, n := range []int{0, 3, amount, bound, -3, -amount, -bound, 1 << 61, 1 << 62, math.MinInt, math.MaxInt} {
		edges = append(edges, n-1, n, n+1)
	}
	for _, used := range edges {
		for _, limit := range edges {
			for _, by := range edges {
				for _, absolute := range []bool{false, true} {
					ok, warns := allowed(used, limit, by, absolute)
					allows(t, api.Node{Limit: limit, Exp: used, Absolute: absolute}, by, ok, warns)
				}
			}
		}
	}
}

// P29.2: each node of the path grows, and no other one.
func TestCharge(t *testing.T) {
	a, b, c, d := node(1, 0, 90, true), node(2, 1, 40, false), node(3, 2, 30, true), node(4, 1, 40, true)
	e := node(3, 2, 30, true)
	e.Year = 2021
	v := with(t, a, b, c, d, e)
	charge(t, v, 3, 5, 6, 7, false)
	has(t, v, more(a, 5, 6, 7), more(b, 5, 6, 7), more(c, 5, 6, 7), d, e)
	charge(t, v, 2, 1, 0, 0, false)
	charge(t, v, 2, 0, 2, 0, false)
	charge(t, v, 1, 0, 0, 3, false)
	charge(t, v, 4, 10, 20, 5, false)
	has(t, v, more(a, 16, 28, 15), more(b, 6, 8, 7), more(c, 5, 6, 7), more(d, 10, 20, 5), e)
	charge(t, v, 3, -5, 5, 0, false)
	charge(t, v, 3, 0, -11, -7, false)
	charge(t, v, 3, 0, 0, 0, false)
	has(t, v, more(a, 11, 22, 8), more(b, 1, 2, 0), c, more(d, 10, 20, 5), e)
}

// The document's fourth and fifth examples, as far as they are of a node.
func TestChargeShift(t *testing.T) {
	n := node(1, 0, 10, true)
	v := with(t, n)
	charge(t, v, 1, 10, 0, 0, false)
	charge(t, v, 1, -7, 7, 0, false)
	charge(t, v, 1, 0, -4, 4, false)
	has(t, v, more(n, 3, 3, 4))
	charge(t, v, 1, -3, 0, 0, false)
	has(t, v, more(n, 0, 3, 4))
}

// P29.2: ErrNone, whatever the figures are.
func TestChargeNone(t *testing.T) {
	v := with(t, node(1, 0, 90, false), node(0, 0, 90, false), node(top, 0, 90, false))
	for _, figures := range [][3]int{{}, {1, 1, 1}, {amount + 1, 0, 0}, {0, math.MinInt, math.MaxInt}, {-1, 0, 0}} {
		for _, id := range []int{2, -1, -1 << 32, 1 - 1<<32, 1 << 32, 1<<32 + 1, math.MinInt, math.MaxInt} {
			refused(t, v, 2020, id, figures[0], figures[1], figures[2], api.ErrNone)
		}
		for _, year := range []int{2019, 2021, 0, -2020, 1<<32 + 2020, math.MinInt, math.MaxInt} {
			refused(t, v, year, 1, figures[0], figures[1], figures[2], api.ErrNone)
		}
	}
	charge(t, v, 0, 1, 0, 0, false)
	charge(t, v, top, 1, 0, 0, false)
	// What is no node's record is no node.
	p := pair(node(5, 0, 90, false))
	if err := v.Put(p.Key, p.Value[:72]); err != api.OK {
		t.Fatalf("Put: %d", err)
	}
	refused(t, v, 2020, 5, 1, 0, 0, api.ErrNone)
}

// P29.2: each of the three is -MaxAmount to MaxAmount, by itself.
func TestChargeAmounts(t *testing.T) {
	n := more(node(1, 0, bound, true), amount, amount, amount)
	for place := range 3 {
		v := with(t, n)
		var by [3]int
		for _, by[place] = range []int{amount, -amount, amount - 1, 1 - amount} {
			charge(t, v, 1, by[0], by[1], by[2], false)
		}
		has(t, v, n)
		for _, by[place] = range []int{amount + 1, -amount - 1, 2 * amount, bound, 1 << 62, math.MaxInt, math.MinInt} {
			refused(t, v, 2020, 1, by[0], by[1], by[2], api.ErrRange)
		}
	}
	v := with(t, n)
	charge(t, v, 1, amount, amount, amount, false)
	charge(t, v, 1, -amount, -amount, -amount, false)
	refused(t, v, 2020, 1, amount+1, -amount-1, 0, api.ErrRange)
	// They are looked at ahead of what the node is allowed.
	v = with(t, node(1, 0, 0, true))
	refused(t, v, 2020, 1, amount+1, 0, 0, api.ErrRange)
	refused(t, v, 2020, 1, amount, 0, 0, api.ErrLimit)
}

// P29.2: figures of a node are 0 to 2^60, and stay so.
func TestChargeRange(t *testing.T) {
	for place := range 3 {
		for _, c := range []struct {
			has, by int
			want    api.Errno
		}{
			{0, -1, api.ErrRange}, {5, -6, api.ErrRange}, {5, -5, api.OK}, {0, 0, api.OK},
			{-1, 0, api.ErrRange}, {-1, 1, api.ErrRange}, {-1, 2, api.ErrRange}, {-1, -1, api.ErrRange}, {math.MinInt, -1, api.ErrRange},
			{bound, 0, api.OK}, {bound, -1, api.OK}, {bound, 1, api.ErrRange}, {bound - 1, 1, api.OK}, {bound - 1, 2, api.ErrRange}, {bound - amount, amount, api.OK},
			{bound + 1, 0, api.ErrRange}, {bound + 1, -1, api.ErrRange}, {bound + 1, -2, api.ErrRange}, {bound + 1, 1, api.ErrRange}, {math.MaxInt, 0, api.ErrRange}, {math.MaxInt, amount, api.ErrRange},
		} {
			var has, by [3]int
			has[place], by[place] = c.has, c.by
			n := more(node(1, 0, bound, true), has[0], has[1], has[2])
			v := with(t, n)
			if c.want != api.OK {
				refused(t, v, 2020, 1, by[0], by[1], by[2], c.want)
				continue
			}
			charge(t, v, 1, by[0], by[1], by[2], false)
			if got, _ := tree.Get(v, 2020, 1); got != more(n, by[0], by[1], by[2]) {
				t.Errorf("%v became %v by %v", n, got, by)
			}
		}
	}
}

// P29.2: a figure that does not change counts for it too, and it is ahead of ErrLimit.
func TestChargeRangeOfOthers(t *testing.T) {
	for place := range 3 {
		for other := range 3 {
			for _, n := range []int{-1, bound + 1} {
				var has, by [3]int
				has[place], by[other] = n, 1
				refused(t, with(t, more(node(1, 0, 0, true), has[0], has[1], has[2])), 2020, 1, by[0], by[1], by[2], api.ErrRange)
			}
		}
	}
	v := with(t, more(node(1, 0, 0, true), 0, 3, 0))
	refused(t, v, 2020, 1, 5, -4, 0, api.ErrRange)
	refused(t, v, 2020, 1, 5, -3, 0, api.ErrLimit)
	charge(t, v, 1, 3, -3, 0, false)
	// Of a node that uses too much together, or has such a limit, nothing is allowed, less of it neither.
	refused(t, with(t, more(node(1, 0, bound, false), bound, 1, 0)), 2020, 1, 0, 0, 0, api.ErrLimit)
	refused(t, with(t, more(node(1, 0, bound, false), bound, bound, bound)), 2020, 1, -1, -1, -1, api.ErrLimit)
	refused(t, with(t, node(1, 0, bound+1, false)), 2020, 1, 1, 0, 0, api.ErrLimit)
	refused(t, with(t, node(1, 0, -bound-1, false)), 2020, 1, 0, 0, 0, api.ErrLimit)
}

// P29.2: the three are held together against the limit.
func TestChargeTogether(t *testing.T) {
	n := more(node(1, 0, 20, true), 5, 5, 5)
	v := with(t, n)
	for _, by := range [][3]int{{6, 0, 0}, {0, 6, 0}, {0, 0, 6}, {2, 2, 2}, {-5, 10, 1}, {amount, amount, amount}} {
		refused(t, v, 2020, 1, by[0], by[1], by[2], api.ErrLimit)
	}
	for _, by := range [][3]int{{5, 0, 0}, {0, 5, 0}, {0, 0, 5}, {1, 2, 2}, {-5, 9, 1}, {-5, -5, 15}, {0, 0, 0}, {-1, 0, 0}} {
		charge(t, v, 1, by[0], by[1], by[2], false)
		put(t, v, n)
	}
	// Beyond its limit it may shrink, or have what is used as another figure.
	n.Limit = 3
	put(t, v, n)
	for _, by := range [][3]int{{-1, 0, 0}, {-5, 5, 0}, {-5, -5, 9}} {
		charge(t, v, 1, by[0], by[1], by[2], false)
		put(t, v, n)
	}
	refused(t, v, 2020, 1, -5, 5, 1, api.ErrLimit)
	n.Absolute = false
	put(t, v, n)
	charge(t, v, 1, -5, 5, 0, false)
	charge(t, v, 1, 0, -5, 6, true)
	has(t, v, more(n, -5, 0, 6))
}

// P29.2: a warning of any node of the path is told.
func TestChargeWarned(t *testing.T) {
	for beyond := range 8 {
		var l, want []api.Node
		for i := range 3 {
			n := node(1+i, i, 10, false)
			if beyond>>i&1 == 1 {
				n.Limit = 9
			}
			l = append(l, n)
			want = append(want, more(n, 2, 3, 5))
		}
		v := with(t, l...)
		charge(t, v, 3, 2, 3, 5, beyond != 0)
		has(t, v, want...)
		charge(t, v, 3, 0, 0, -1, false)
	}
}

// P29.2: one node that refuses it refuses it for all, wherever it stands, and also behind a warning.
func TestChargeLimit(t *testing.T) {
	for tight := range 4 {
		var l []api.Node
		for i := range 4 {
			l = append(l, node(1+i, i, 5, false))
		}
		l[tight] = node(1+tight, tight, 9, true)
		v := with(t, l...)
		refused(t, v, 2020, 4, 0, 10, 0, api.ErrLimit)
		charge(t, v, 4, 0, 9, 0, true)
		refused(t, v, 2020, 4, 0, 0, 1, api.ErrLimit)
		// Of what stands above it nothing is asked.
		if tight > 0 {
			charge(t, v, tight, 0, 0, 1, true)
		}
	}
}

// P29.2, R1: the first node that has an error tells it.
func TestChargeOrder(t *testing.T) {
	tight, odd := node(1, 0, 0, true), more(node(1, 0, 50, true), -1, 0, 0)
	below := func(n api.Node) api.Node {
		n.ID, n.Parent = 2, 1
		return n
	}
	refused(t, with(t, tight, below(odd)), 2020, 2, 1, 0, 0, api.ErrRange)
	refused(t, with(t, odd, below(tight)), 2020, 2, 1, 0, 0, api.ErrLimit)
	refused(t, with(t, odd, below(node(1, 0, 50, true))), 2020, 2, 1, 0, 0, api.ErrRange)
	refused(t, with(t, odd, below(node(1, 0, 0, false))), 2020, 2, 1, 0, 0, api.ErrRange)
}

// P29.2: a path ends where its last node's parent is none, and behind MaxTree of them.
func TestChargePath(t *testing.T) {
	for long := 1; long < 12; long++ {
		for _, parent := range []int{0, 50, -1, 1<<32 + 1} {
			var l, want []api.Node
			for id := 1; id <= long; id++ {
				n := node(id, id+1, 20, true)
				if id == long {
					n.Parent = parent
				}
				l = append(l, n)
				if id <= deepest {
					n = more(n, 1, 2, 3)
				}
				want = append(want, n)
			}
			v := with(t, l...)
			charge(t, v, 1, 1, 2, 3, false)
			has(t, v, want...)
		}
	}
}

// P29.2: nodes of a ring, which Path tells again and again, grow once: by what it told.
func TestChargeRing(t *testing.T) {
	for long := 1; long < 12; long++ {
		var l, want []api.Node
		for id := 1; id <= long; id++ {
			n := node(id, 1+id%long, 5, true)
			l = append(l, n)
			if id <= deepest {
				n = more(n, 0, 5, 0)
			}
			want = append(want, n)
		}
		v := with(t, l...)
		charge(t, v, 1, 0, 5, 0, false)
		has(t, v, want...)
		refused(t, v, 2020, 1, 1, 0, 0, api.ErrLimit)
	}
}

// P29.2, P29.3: long lives of a tree, held against its nodes in a table.
func TestChargeMany(t *testing.T) {
	for seed := range 20 {
		v := view.New(nil)
		var now []api.Node
		for id := 1; id <= 15; id++ {
			now = append(now, node(id, id/2, 60*(15-id)+seed, (id+seed)%3 > 0))
		}
		put(t, v, now...)
		rand := uint32(seed + 1)
		next := func(n int) int {
			rand = rand*1664525 + 1013904223
			return int(rand>>8) % n
		}
		done := 0
		for range 400 {
			id, by := 1+next(15), [3]int{next(41) - 15, next(41) - 15, next(41) - 15}
			grown, warned, want := slices.Clone(now), false, api.OK
			for at := id; at > 0 && want == api.OK; at /= 2 {
				n := more(now[at-1], by[0], by[1], by[2])
				grown[at-1] = n
				used, all := tree.Used(n), by[0]+by[1]+by[2]
				switch {
				case min(n.Pre, n.Enc, n.Exp) < 0:
					want = api.ErrRange
				case all > 0 && used > n.Limit && n.Absolute:
					want = api.ErrLimit
				case all > 0 && used > n.Limit:
					warned = true
				}
			}
			if want != api.OK {
				refused(t, v, 2020, id, by[0], by[1], by[2], want)
				continue
			}
			charge(t, v, id, by[0], by[1], by[2], warned)
			now = grown
			has(t, v, now...)
			done++
			for _, n := range tree.All(v, 2020) {
				if n.Absolute && tree.Used(n) > n.Limit {
					t.Fatalf("%v is beyond its limit", n)
				}
			}
		}
		if done < 50 {
			t.Errorf("only %d were done", done)
		}
	}
}

// P29.3: just up to the limit, with figures as great as may be.
func TestAbsoluteStays(t *testing.T) {
	n := node(1, 0, bound, true)
	v := with(t, n)
	for _, by := range [][3]int{{amount, amount, amount}, {1, 0, 0}, {amount, -amount, 0}, {amount, amount, -1}, {-amount, 0, 0}, {0, amount, amount}, {1, -1, 1}} {
		for range 200 {
			grown, want := more(n, by[0], by[1], by[2]), api.OK
			switch {
			case min(grown.Pre, grown.Enc, grown.Exp) < 0 || max(grown.Pre, grown.Enc, grown.Exp) > bound:
				want = api.ErrRange
			case by[0]+by[1]+by[2] > 0 && tree.Used(grown) > bound:
				want = api.ErrLimit
			}
			if want != api.OK {
				refused(t, v, 2020, 1, by[0], by[1], by[2], want)
				break
			}
			charge(t, v, 1, by[0], by[1], by[2], false)
			n = grown
			has(t, v, n)
			if tree.Used(n) > bound {
				t.Fatalf("%v is beyond its limit", n)
			}
		}
	}
}

// P29.2: the view is changed, and nothing below it till its Commit.
func TestOnDisk(t *testing.T) {
	d, _ := disk.New(81)
	k, err := kv.Format(d)
	if err != api.OK {
		t.Fatalf("Format: %d", err)
	}
	v := view.New(k)
	a, b := node(1, 0, 5, true), node(2, 1, 4, false)
	put(t, v, a, b)
	commit(t, v)
	charge(t, v, 2, 0, 0, 5, true)
	has(t, view.New(k), a, b)
	refused(t, v, 2020, 2, 0, 0, 1, api.ErrLimit)
	v.Abort()
	has(t, v, a, b)
	charge(t, v, 2, 3, 0, 0, false)
	commit(t, v)
	has(t, view.New(k), more(a, 3, 0, 0), more(b, 3, 0, 0))

	// In a view whose store met an error there is no node.
	d.Arm(0)
	d.Write(0, make([]byte, api.Sector))
	if warned, err := Charge(v, 2020, 2, 1, 0, 0); warned || err != api.ErrNone {
		t.Errorf("of a disk that is down: %t, %d", warned, err)
	}
	if err := v.Err(); err != api.ErrDown {
		t.Errorf("Err: %d", err)
	}
}

func commit(t *testing.T, v *view.View) {
	t.Helper()
	if err := v.Commit(); err != api.OK {
		t.Fatalf("Commit: %d", err)
	}
}

// P29.2, R5: in a view that no call made there is no node.
func TestNoView(t *testing.T) {
	for _, v := range []*view.View{nil, {}} {
		for _, by := range []int{0, 1, -1, amount + 1, math.MinInt} {
			if warned, err := Charge(v, 2020, 1, by, 0, 0); warned || err != api.ErrNone {
				t.Errorf("Charge: %t, %d", warned, err)
			}
		}
	}
}
