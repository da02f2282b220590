package tree

import (
	"bytes"
	"encoding/binary"
	"math"
	"slices"
	"testing"

	"exchequer/api"
	"exchequer/disk"
	"exchequer/kv"
	"exchequer/view"
)

const (
	top = 1<<32 - 1
	// deepest is MaxTree, written out.
	deepest = 8
)

// wrong are numbers that may not stand in a key; some are 0, 7 or the last one modulo a power of two, or held as that.
var wrong = []int{math.MinInt, math.MinInt + 7, -1 << 32, 7 - 1<<32, -7, -1, top + 1, top + 8, 1 << 33, math.MaxInt}

// keyOf is a node's key, or another one with that tag, reworked by the library.
func keyOf(nums ...uint32) []byte {
	key := []byte{'N'}
	for _, n := range nums {
		key = binary.BigEndian.AppendUint32(key, n)
	}
	return key
}

// valueOf is numbers as a value, reworked by the library.
func valueOf(nums ...int) []byte {
	var value []byte
	for _, n := range nums {
		value = binary.BigEndian.AppendUint64(value, uint64(n))
	}
	return value
}

// pair is what stands of a node.
func pair(year, id uint32, n api.Node) api.Pair {
	absolute := 0
	if n.Absolute {
		absolute = 1
	}
	return api.Pair{Key: keyOf(year, id), Value: valueOf(n.Parent, n.Fund, n.Object, absolute, n.Limit, n.Pre, n.Enc, n.Exp, n.Lapsed, n.Carried)}
}

// below is a node with a parent, and numbers by which it is known from others.
func below(year, id, parent int) api.Node {
	return api.Node{Year: year, ID: id, Parent: parent, Fund: 100 + id%900, Object: 5000 + year%1000, Absolute: id%2 == 1, Limit: 10*id + year, Pre: id + 1, Enc: id + 2, Exp: id + 3, Lapsed: id + 4, Carried: id + 5}
}

// stand lets a value stand at a key.
func stand(t *testing.T, v *view.View, key, value []byte) {
	t.Helper()
	if err := v.Put(key, value); err != api.OK {
		t.Fatalf("Put: %d", err)
	}
}

func put(t *testing.T, v *view.View, l ...api.Node) {
	t.Helper()
	for _, n := range l {
		if err := Put(v, n); err != api.OK {
			t.Fatalf("Put %v: %d", n, err)
		}
	}
}

// with is a view with nodes.
func with(t *testing.T, l ...api.Node) *view.View {
	t.Helper()
	v := view.New(nil)
	put(t, v, l...)
	return v
}

// has looks that just these pairs stand in a view.
func has(t *testing.T, v *view.View, want ...api.Pair) {
	t.Helper()
	got := v.Scan(nil)
	same := len(got) == len(want)
	for i := 0; same && i < len(want); i++ {
		same = bytes.Equal(got[i].Key, want[i].Key) && bytes.Equal(got[i].Value, want[i].Value)
	}
	if !same {
		t.Errorf("there stand %v, not %v", got, want)
	}
}

func get(t *testing.T, v *view.View, year, id int, want api.Node) {
	t.Helper()
	if got, ok := Get(v, year, id); !ok || got != want {
		t.Errorf("Get %d %d: %v, %t, not %v", year, id, got, ok, want)
	}
}

// none looks that there is no such node.
func none(t *testing.T, v *view.View, year, id int) {
	t.Helper()
	if got, ok := Get(v, year, id); ok || got != (api.Node{}) {
		t.Errorf("Get %d %d: %v, %t", year, id, got, ok)
	}
	path(t, v, year, id)
}

func all(t *testing.T, v *view.View, year int, want ...api.Node) {
	t.Helper()
	if got := All(v, year); !slices.Equal(got, want) {
		t.Errorf("All %d: %v, not %v", year, got, want)
	}
}

func kids(t *testing.T, v *view.View, year, id int, want ...api.Node) {
	t.Helper()
	if got := Kids(v, year, id); !slices.Equal(got, want) {
		t.Errorf("Kids %d %d: %v, not %v", year, id, got, want)
	}
}

func path(t *testing.T, v *view.View, year, id int, want ...api.Node) {
	t.Helper()
	if got := Path(v, year, id); !slices.Equal(got, want) {
		t.Errorf("Path %d %d: %v, not %v", year, id, got, want)
	}
}

// P28.1: it stands as layer 19 says, and is told with all its numbers.
func TestPut(t *testing.T) {
	v := view.New(nil)
	none(t, v, 2020, 7)
	n := api.Node{Year: 2020, ID: 7, Parent: 3, Fund: 100, Object: 5010, Absolute: true, Limit: 11, Pre: 12, Enc: 13, Exp: 14, Lapsed: 15, Carried: 16}
	put(t, v, n)
	has(t, v, api.Pair{Key: keyOf(2020, 7), Value: valueOf(3, 100, 5010, 1, 11, 12, 13, 14, 15, 16)})
	get(t, v, 2020, 7, n)
	all(t, v, 2020, n)
	kids(t, v, 2020, 3, n)
	path(t, v, 2020, 7, n)
	for _, other := range [][2]int{{2020, 6}, {2020, 8}, {2019, 7}, {2021, 7}, {7, 2020}, {2020, 0}, {0, 7}, {2020, 3}} {
		none(t, v, other[0], other[1])
	}
}

// P28.1: another node with its year and ID stands in its stead; of numbers nothing is asked.
func TestPutAgain(t *testing.T) {
	v := view.New(nil)
	for _, n := range []api.Node{
		{Year: 2020, ID: 7},
		{Year: 2020, ID: 7, Absolute: true},
		{Year: 2020, ID: 7, Parent: -1, Fund: -2, Object: -3, Limit: -4, Pre: -5, Enc: -6, Exp: -7, Lapsed: -8, Carried: -9},
		{Year: 2020, ID: 7, Parent: math.MaxInt, Fund: math.MinInt, Object: math.MaxInt, Absolute: true, Limit: math.MinInt, Pre: math.MaxInt, Enc: math.MinInt, Exp: math.MaxInt, Lapsed: math.MinInt, Carried: math.MaxInt},
		{Year: 2020, ID: 7, Parent: 7},
		{Year: 2020, ID: 7},
	} {
		put(t, v, n)
		has(t, v, pair(2020, 7, n))
		get(t, v, 2020, 7, n)
		all(t, v, 2020, n)
		kids(t, v, 2020, n.Parent, n)
	}
}

// P28.1: years and IDs at their ends; what can't be one is not told as another one.
func TestEnds(t *testing.T) {
	v := view.New(nil)
	var pairs []api.Pair
	for _, year := range []int{0, 7, top} {
		for _, id := range []int{0, 7, top} {
			n := below(year, id, 5)
			put(t, v, n)
			pairs = append(pairs, pair(uint32(year), uint32(id), n))
		}
	}
	has(t, v, pairs...)
	for _, year := range []int{0, 7, top} {
		for _, id := range []int{0, 7, top} {
			get(t, v, year, id, below(year, id, 5))
			path(t, v, year, id, below(year, id, 5))
		}
		all(t, v, year, below(year, 0, 5), below(year, 7, 5), below(year, top, 5))
		kids(t, v, year, 5, below(year, 0, 5), below(year, 7, 5), below(year, top, 5))
	}
	for _, n := range wrong {
		for _, other := range []int{0, 7, top, n} {
			none(t, v, n, other)
			none(t, v, other, n)
		}
		all(t, v, n)
		kids(t, v, n, 5)
		kids(t, v, 7, n)
	}
}

// P28.1: Put holds years and IDs as keys do (18), and nothing of it is told by what it was held from.
func TestHeld(t *testing.T) {
	for _, n := range wrong {
		held := 0
		if n > 0 {
			held = top
		}
		v := with(t, below(n, 7, 5))
		has(t, v, pair(uint32(held), 7, below(n, 7, 5)))
		none(t, v, n, 7)
		all(t, v, n)
		told := below(n, 7, 5)
		told.Year = held
		get(t, v, held, 7, told)
		v = with(t, below(7, n, 5))
		has(t, v, pair(7, uint32(held), below(7, n, 5)))
		none(t, v, 7, n)
		told = below(7, n, 5)
		told.ID = held
		all(t, v, 7, told)
	}
}

// P28.1: what is no node's record is no node.
func TestOtherRecords(t *testing.T) {
	v := view.New(nil)
	value := valueOf(5, 100, 5010, 1, 11, 12, 13, 14, 15, 16)
	for _, key := range [][]byte{{'N'}, keyOf(2020), keyOf(2020, 7, 0), append(keyOf(2020, 7), 0), keyOf(2020, 7)[:8], append([]byte{'M'}, keyOf(2020, 7)[1:]...), append([]byte{'O'}, keyOf(2020, 7)[1:]...), append([]byte{'n'}, keyOf(2020, 7)[1:]...)} {
		stand(t, v, key, value)
	}
	for id, other := range [][]byte{nil, value[:79], value[1:], append(slices.Clone(value), 0), value[:72], append(slices.Clone(value), value[:8]...), value[:8]} {
		stand(t, v, keyOf(2020, uint32(id)), other)
	}
	for id := range 9 {
		none(t, v, 2020, id)
	}
	all(t, v, 2020)
	kids(t, v, 2020, 5)
	put(t, v, below(2020, 3, 5), below(2020, 8, 3))
	all(t, v, 2020, below(2020, 3, 5), below(2020, 8, 3))
	kids(t, v, 2020, 5, below(2020, 3, 5))
	path(t, v, 2020, 8, below(2020, 8, 3), below(2020, 3, 5))
}

// P28.1: Absolute is any number but 0.
func TestAbsolute(t *testing.T) {
	for _, n := range []int{0, 1, 2, -1, 256, math.MinInt} {
		v := view.New(nil)
		stand(t, v, keyOf(2020, 7), valueOf(0, 100, 5010, n, 11, 0, 0, 0, 0, 0))
		want := api.Node{Year: 2020, ID: 7, Fund: 100, Object: 5010, Absolute: n != 0, Limit: 11}
		get(t, v, 2020, 7, want)
		all(t, v, 2020, want)
		kids(t, v, 2020, 0, want)
		path(t, v, 2020, 7, want)
	}
}

// P28.1: All rises by ID, in whatever order they were put, and is of its year alone.
func TestAll(t *testing.T) {
	v := with(t, below(2020, 300, 1), below(2020, 2, 300), below(2021, 4, 0), below(2020, 255, 2), below(2020, 65536, 2), below(2020, 1, 0), below(2019, 9, 0), below(2020, 256, 7))
	all(t, v, 2020, below(2020, 1, 0), below(2020, 2, 300), below(2020, 255, 2), below(2020, 256, 7), below(2020, 300, 1), below(2020, 65536, 2))
	all(t, v, 2021, below(2021, 4, 0))
	all(t, v, 2019, below(2019, 9, 0))
	all(t, v, 2018)
	all(t, v, 2022)
}

// P28.1, with the chapter's example: Kids of 0 are those without a parent.
func TestKids(t *testing.T) {
	v := with(t,
		below(2020, 9, 0), below(2020, 1, 0), below(2020, 4, 1), below(2020, 3, 1), below(2020, 5, 4), below(2020, 6, 6), below(2020, 8, 77), below(2020, 7, -1), below(2020, 10, 1<<32+1), below(2020, 11, top),
		below(2021, 2, 1), below(2021, 1, 0),
	)
	kids(t, v, 2020, 0, below(2020, 1, 0), below(2020, 9, 0))
	kids(t, v, 2020, 1, below(2020, 3, 1), below(2020, 4, 1))
	kids(t, v, 2020, 4, below(2020, 5, 4))
	kids(t, v, 2020, 6, below(2020, 6, 6))
	kids(t, v, 2020, 77, below(2020, 8, 77))
	kids(t, v, 2020, -1, below(2020, 7, -1))
	kids(t, v, 2020, 1<<32+1, below(2020, 10, 1<<32+1))
	kids(t, v, 2020, top, below(2020, 11, top))
	kids(t, v, 2021, 1, below(2021, 2, 1))
	kids(t, v, 2021, 0, below(2021, 1, 0))
	for _, id := range []int{3, 5, 7, 8, 9, 2020, math.MinInt, math.MaxInt, top + 1} {
		kids(t, v, 2020, id)
	}
	kids(t, v, 2022, 0)
}

// line are nodes from ID 1 to last, each below the next one; the last one has this parent.
func line(year, last, parent int) []api.Node {
	var l []api.Node
	for id := 1; id < last; id++ {
		l = append(l, below(year, id, id+1))
	}
	return append(l, below(year, last, parent))
}

// P28.1, P28.2: up to one without a parent, or whose parent isn't there; at most MaxTree.
func TestPath(t *testing.T) {
	for last := 1; last < 20; last++ {
		for _, parent := range []int{0, 50, -1, -50, top, top + 1, 1<<32 + 1, math.MinInt, math.MaxInt} {
			l := line(2020, last, parent)
			v := with(t, l...)
			put(t, v, below(2021, 50, 0), below(2021, 0, 0))
			for id := 1; id <= last; id++ {
				path(t, v, 2020, id, l[id-1:min(id-1+deepest, last)]...)
			}
			none(t, v, 2020, last+1)
			none(t, v, 2020, 0)
			path(t, v, 2021, 50, below(2021, 50, 0))
		}
	}
}

// P28.1: a parent of 0 is none, even if a node 0 is there; a parent that can't be a node is none, whatever its key would hold.
func TestPathAtEnds(t *testing.T) {
	v := with(t, below(2020, 0, 0), below(2020, top, 1), below(2020, 1, 0), below(2020, 2, 1))
	path(t, v, 2020, 0, below(2020, 0, 0))
	path(t, v, 2020, 1, below(2020, 1, 0))
	path(t, v, 2020, 2, below(2020, 2, 1), below(2020, 1, 0))
	path(t, v, 2020, top, below(2020, top, 1), below(2020, 1, 0))
	put(t, v, below(2020, 3, top))
	path(t, v, 2020, 3, below(2020, 3, top), below(2020, top, 1), below(2020, 1, 0))
	for _, n := range wrong {
		put(t, v, below(2020, 4, n))
		path(t, v, 2020, 4, below(2020, 4, n))
	}
	put(t, v, below(2020, 0, 2))
	path(t, v, 2020, 0, below(2020, 0, 2), below(2020, 2, 1), below(2020, 1, 0))
}

// P28.1: nodes that stand below each other in a ring are told MaxTree times.
func TestRing(t *testing.T) {
	for long := 1; long < 12; long++ {
		ring := line(2020, long, 1)
		v := with(t, ring...)
		put(t, v, below(2020, 20, 1))
		for id := 1; id <= long; id++ {
			var want []api.Node
			for step := range deepest {
				want = append(want, ring[(id-1+step)%long])
			}
			path(t, v, 2020, id, want...)
			if id == 1 {
				path(t, v, 2020, 20, append([]api.Node{below(2020, 20, 1)}, want[:deepest-1]...)...)
			}
		}
	}
}

// P28.1, P28.2: many trees, held against a map.
func TestMany(t *testing.T) {
	v := view.New(nil)
	of := map[[2]int]api.Node{}
	for i := range 600 {
		id := 1 + i*i%211
		n := below(2020+i%2, id, max(0, id*(i%7+1)%97-i%13))
		of[[2]int{n.Year, n.ID}] = n
		put(t, v, n)
	}
	for year := 2019; year < 2023; year++ {
		var want []api.Node
		under := map[int][]api.Node{}
		for id := range 300 {
			n, ok := of[[2]int{year, id}]
			if !ok {
				none(t, v, year, id)
				continue
			}
			get(t, v, year, id, n)
			want = append(want, n)
			under[n.Parent] = append(under[n.Parent], n)
			up := Path(v, year, id)
			if len(up) == 0 || len(up) > deepest || up[0] != n {
				t.Fatalf("Path %d %d: %v", year, id, up)
			}
			for i := 1; i < len(up); i++ {
				if up[i] != of[[2]int{year, up[i-1].Parent}] {
					t.Fatalf("Path %d %d: %v", year, id, up)
				}
			}
			if _, there := of[[2]int{year, up[len(up)-1].Parent}]; len(up) < deepest && there {
				t.Fatalf("Path %d %d ends too early: %v", year, id, up)
			}
		}
		all(t, v, year, want...)
		for id := range 300 {
			kids(t, v, year, id, under[id]...)
		}
	}
}

// P28.1
func TestUsed(t *testing.T) {
	for _, c := range []struct {
		n    api.Node
		want int
	}{
		{api.Node{}, 0},
		{api.Node{Pre: 1, Enc: 20, Exp: 300}, 321},
		{api.Node{Pre: 5}, 5}, {api.Node{Enc: 5}, 5}, {api.Node{Exp: 5}, 5},
		{api.Node{Year: 1, ID: 2, Parent: 3, Fund: 4, Object: 5, Absolute: true, Limit: 6, Lapsed: 7, Carried: 8}, 0},
		{api.Node{Pre: -1, Enc: 3, Exp: -4}, -2},
		{api.Node{Pre: 1 << 60, Enc: 1 << 60, Exp: 1 << 60}, 3 << 60},
		{api.Node{Pre: math.MaxInt, Enc: 1}, math.MinInt},
		{api.Node{Enc: math.MinInt, Exp: -1}, math.MaxInt},
		{api.Node{Pre: math.MaxInt, Enc: math.MaxInt, Exp: 3}, 1},
		{api.Node{Pre: math.MinInt, Exp: math.MinInt}, 0},
	} {
		if got := Used(c.n); got != c.want {
			t.Errorf("Used %v: %d, not %d", c.n, got, c.want)
		}
	}
}

// P28.1
func TestGiven(t *testing.T) {
	for _, c := range []struct {
		l    []api.Node
		want int
	}{
		{nil, 0}, {[]api.Node{}, 0}, {[]api.Node{{Limit: 7}}, 7},
		{[]api.Node{{Limit: 1}, {Limit: 20}, {Limit: 300}}, 321},
		{[]api.Node{{Limit: 1}, {Limit: -20}}, -19},
		{[]api.Node{{Year: 1, ID: 2, Parent: 3, Fund: 4, Object: 5, Absolute: true, Pre: 6, Enc: 7, Exp: 8, Lapsed: 9, Carried: 10}}, 0},
		{[]api.Node{{Limit: 5}, {Limit: 5}}, 10},
		{[]api.Node{{Limit: math.MaxInt}, {Limit: 1}}, math.MinInt},
		{[]api.Node{{Limit: math.MaxInt}, {Limit: math.MaxInt}, {Limit: 3}}, 1},
		{[]api.Node{{Limit: math.MinInt}, {Limit: -1}}, math.MaxInt},
	} {
		before := slices.Clone(c.l)
		if got := Given(c.l); got != c.want {
			t.Errorf("Given %v: %d, not %d", c.l, got, c.want)
		}
		if !slices.Equal(c.l, before) {
			t.Errorf("%v became %v", before, c.l)
		}
	}
}

// P28.1: the view is changed by Put alone, and nothing below it till its Commit.
func TestOnDisk(t *testing.T) {
	d, _ := disk.New(81)
	k, err := kv.Format(d)
	if err != api.OK {
		t.Fatalf("Format: %d", err)
	}
	v := view.New(k)
	put(t, v, below(2020, 1, 0), below(2020, 2, 1))
	has(t, view.New(k))
	if err := v.Commit(); err != api.OK {
		t.Fatalf("Commit: %d", err)
	}
	all(t, view.New(k), 2020, below(2020, 1, 0), below(2020, 2, 1))
	put(t, v, below(2020, 2, 3), below(2020, 3, 0))
	path(t, v, 2020, 2, below(2020, 2, 3), below(2020, 3, 0))
	kids(t, v, 2020, 0, below(2020, 1, 0), below(2020, 3, 0))
	all(t, v, 2020, below(2020, 1, 0), below(2020, 2, 3), below(2020, 3, 0))
	get(t, v, 2020, 2, below(2020, 2, 3))
	if puts, dels := v.Changes(); len(puts) != 2 || len(dels) != 0 {
		t.Errorf("changes %v, %v", puts, dels)
	}
	v.Abort()
	path(t, v, 2020, 2, below(2020, 2, 1), below(2020, 1, 0))
	none(t, v, 2020, 3)

	// Of a view whose store met an error nothing is told.
	d.Arm(0)
	d.Write(0, make([]byte, api.Sector))
	none(t, v, 2020, 1)
	all(t, v, 2020)
	kids(t, v, 2020, 0)
	if err := v.Err(); err != api.ErrDown {
		t.Errorf("Err: %d", err)
	}
}

// P28.1, R5: of a view that no call made there is no node.
func TestNoView(t *testing.T) {
	for _, v := range []*view.View{nil, {}} {
		for _, n := range []api.Node{below(2020, 7, 0), {}, {Year: -1, ID: -1}} {
			if err := Put(v, n); err != api.ErrNil {
				t.Errorf("Put: %d", err)
			}
			none(t, v, n.Year, n.ID)
			all(t, v, n.Year)
			kids(t, v, n.Year, 0)
		}
	}
}

// R3: what is answered may be changed.
func TestNothingShared(t *testing.T) {
	v := with(t, below(2020, 1, 0), below(2020, 2, 1), below(2020, 3, 1))
	for range 2 {
		for _, got := range [][]api.Node{All(v, 2020), Kids(v, 2020, 1), Path(v, 2020, 3)} {
			clear(got[:cap(got)])
		}
		all(t, v, 2020, below(2020, 1, 0), below(2020, 2, 1), below(2020, 3, 1))
		kids(t, v, 2020, 1, below(2020, 2, 1), below(2020, 3, 1))
		path(t, v, 2020, 3, below(2020, 3, 1), below(2020, 1, 0))
	}
}
