package docs

import (
	"bytes"
	"encoding/binary"
	"math"
	"math/big"
	"slices"
	"testing"

	"exchequer/api"
	"exchequer/disk"
	"exchequer/kv"
	"exchequer/view"
)

const (
	top = 1<<32 - 1
	// mostLines and bound are MaxLines and 2^60, written out.
	mostLines = 6
	bound     = 1152921504606846976
)

// wrong are IDs that may not be; some are 1 or the last one modulo a power of two, or held as that.
var wrong = []int{math.MinInt, math.MinInt + 1, -1 << 32, 1 - 1<<32, -2, -1, top + 1, top + 2, 1 << 33, math.MaxInt}

// pair is a record, reworked by the library.
func pair(tag byte, key []uint32, nums ...int) api.Pair {
	p := api.Pair{Key: []byte{tag}}
	for _, n := range key {
		p.Key = binary.BigEndian.AppendUint32(p.Key, n)
	}
	for _, n := range nums {
		p.Value = binary.BigEndian.AppendUint64(p.Value, uint64(n))
	}
	return p
}

func docPair(id uint32, kind, year, from, lines int) api.Pair {
	return pair('D', []uint32{id}, kind, year, from, lines)
}

func linePair(id, line uint32, x api.DocLine) api.Pair {
	return pair('L', []uint32{id, line}, x.Node, x.Original, x.Liquidated, x.Cancelled)
}

func counterPair(last int) api.Pair {
	return pair('S', []uint32{2}, last)
}

// of is a line with all its numbers.
func of(node, original, liquidated, cancelled int) api.DocLine {
	return api.DocLine{Node: node, Original: original, Liquidated: liquidated, Cancelled: cancelled}
}

// many are n lines, each unlike the others.
func many(n int) []api.DocLine {
	var l []api.DocLine
	for i := range n {
		l = append(l, of(i+1, 100+i, 10+i, 20+i))
	}
	return l
}

// reserved is a document as it is handed in.
func reserved(year int) api.Doc {
	return api.Doc{Kind: api.DocPre, Year: year}
}

// stand lets pairs stand in a view.
func stand(t *testing.T, v *view.View, pairs ...api.Pair) {
	t.Helper()
	for _, p := range pairs {
		if err := v.Put(p.Key, p.Value); err != api.OK {
			t.Fatalf("Put: %d", err)
		}
	}
}

// standWhole lets a document with its lines stand in a view.
func standWhole(t *testing.T, v *view.View, d api.Doc, l []api.DocLine) {
	t.Helper()
	stand(t, v, docPair(uint32(d.ID), d.Kind, d.Year, d.From, d.Lines))
	for i, x := range l {
		stand(t, v, linePair(uint32(d.ID), uint32(i), x))
	}
}

func samePair(a, b api.Pair) bool {
	return bytes.Equal(a.Key, b.Key) && bytes.Equal(a.Value, b.Value)
}

// has looks that just these pairs, in any order, stand in a view.
func has(t *testing.T, v *view.View, want ...api.Pair) {
	t.Helper()
	want = slices.Clone(want)
	slices.SortFunc(want, func(a, b api.Pair) int { return bytes.Compare(a.Key, b.Key) })
	if got := v.Scan(nil); !slices.EqualFunc(got, want, samePair) {
		t.Errorf("there stand %v, not %v", got, want)
	}
}

func put(t *testing.T, v *view.View, d api.Doc, l []api.DocLine, want int, wantErr api.Errno) {
	t.Helper()
	if id, err := Put(v, d, l); id != want || err != wantErr {
		t.Errorf("Put %v of %d lines: %d, %d, not %d, %d", d, len(l), id, err, want, wantErr)
	}
}

func set(t *testing.T, v *view.View, id, line int, x api.DocLine, want api.Errno) {
	t.Helper()
	if err := Set(v, id, line, x); err != want {
		t.Errorf("Set %d %d %v: %d, not %d", id, line, x, err, want)
	}
}

// unset looks that there is no such line to be set, and that nothing is changed.
func unset(t *testing.T, v *view.View, id, line int) {
	t.Helper()
	before := v.Scan(nil)
	set(t, v, id, line, of(1, 2, 3, 4), api.ErrNone)
	has(t, v, before...)
}

// tells looks for a document with its lines.
func tells(t *testing.T, v *view.View, want api.Doc, lines ...api.DocLine) {
	t.Helper()
	d, l, ok := Get(v, want.ID)
	if !ok || d != want || !slices.Equal(l, lines) {
		t.Errorf("Get %d: %v %v %v, not %v %v", want.ID, d, l, ok, want, lines)
	}
}

// none looks that of an ID nothing is told, and nothing of it is set.
func none(t *testing.T, v *view.View, id int) {
	t.Helper()
	d, l, ok := Get(v, id)
	if ok || d != (api.Doc{}) || len(l) != 0 {
		t.Errorf("Get %d: %v %v %v", id, d, l, ok)
	}
	for _, line := range []int{0, 1, -1} {
		unset(t, v, id, line)
	}
}

func all(t *testing.T, v *view.View, year, kind int, want ...int) {
	t.Helper()
	if got := All(v, year, kind); !slices.Equal(got, want) {
		t.Errorf("All %d %d: %v, not %v", year, kind, got, want)
	}
}

func last(t *testing.T, v *view.View, want int) {
	t.Helper()
	if got := Last(v); got != want {
		t.Errorf("Last: %d, not %d", got, want)
	}
}

// P30.1, P30.2
func TestPut(t *testing.T) {
	v := view.New(nil)
	last(t, v, 0)
	none(t, v, 1)
	put(t, v, api.Doc{Kind: 2, Year: 2020, From: 9}, []api.DocLine{of(3, 10, 4, 1), of(7, 5, 0, 0)}, 1, api.OK)
	has(t, v, counterPair(1), docPair(1, 2, 2020, 9, 2), linePair(1, 0, of(3, 10, 4, 1)), linePair(1, 1, of(7, 5, 0, 0)))
	tells(t, v, api.Doc{ID: 1, Kind: 2, Year: 2020, From: 9, Lines: 2}, of(3, 10, 4, 1), of(7, 5, 0, 0))
	all(t, v, 2020, 2, 1)
	last(t, v, 1)
	none(t, v, 0)
	none(t, v, 2)
}

// P30.1, P30.2: documents get rising IDs, and each has its own lines.
func TestPutMore(t *testing.T) {
	v := view.New(nil)
	want := []api.Pair{counterPair(60)}
	for id := 1; id <= 60; id++ {
		n := 1 + id%mostLines
		put(t, v, api.Doc{Kind: id % 4, Year: 2020 + id%3, From: id / 2}, many(n), id, api.OK)
		last(t, v, id)
		want = append(want, docPair(uint32(id), id%4, 2020+id%3, id/2, n))
		for i, x := range many(n) {
			want = append(want, linePair(uint32(id), uint32(i), x))
		}
	}
	has(t, v, want...)
	for id := 1; id <= 60; id++ {
		n := 1 + id%mostLines
		tells(t, v, api.Doc{ID: id, Kind: id % 4, Year: 2020 + id%3, From: id / 2, Lines: n}, many(n)...)
	}
	none(t, v, 61)
}

// P30.1: of a document that is handed in Kind, Year and From count, whatever they are, and nothing else.
func TestPutDoc(t *testing.T) {
	v := view.New(nil)
	for i, n := range []int{0, 1, 2, 3, 4, -1, 1 << 32, math.MinInt, math.MaxInt} {
		id := i + 1
		put(t, v, api.Doc{ID: 77, Kind: n, Year: n - 1, From: 3 - n, Lines: -9}, many(2), id, api.OK)
		tells(t, v, api.Doc{ID: id, Kind: n, Year: n - 1, From: 3 - n, Lines: 2}, many(2)...)
		all(t, v, n-1, n, id)
	}
	none(t, v, 77)
}

// P30.1: lines are as they come: of any numbers, also such as are not Right, and one node more than once.
func TestPutLines(t *testing.T) {
	l := []api.DocLine{{}, of(3, 1, 2, 3), of(3, 1, 2, 3), of(-1, -2, -3, -4), of(math.MaxInt, math.MinInt, math.MaxInt, math.MinInt), of(0, bound, bound+1, 0)}
	v := view.New(nil)
	put(t, v, reserved(2020), l, 1, api.OK)
	tells(t, v, api.Doc{ID: 1, Kind: 1, Year: 2020, Lines: mostLines}, l...)
}

// P30.1: 1 to MaxLines lines; others give out no ID.
func TestPutCount(t *testing.T) {
	v := view.New(nil)
	for n := 1; n <= mostLines; n++ {
		put(t, v, reserved(2020), many(n), n, api.OK)
		tells(t, v, api.Doc{ID: n, Kind: 1, Year: 2020, Lines: n}, many(n)...)
	}
	before := v.Scan(nil)
	for _, n := range []int{0, mostLines + 1, mostLines + 2, 100, 256, 257, 1000} {
		put(t, v, reserved(2020), many(n), 0, api.ErrArg)
	}
	put(t, v, reserved(2020), []api.DocLine{}, 0, api.ErrArg)
	has(t, v, before...)
	last(t, v, mostLines)
}

// P30.1: IDs end with 2^32 - 1; the lines' error is ahead of the counter's.
func TestPutCounter(t *testing.T) {
	for _, n := range []int{math.MinInt, -2, -1, top, top + 1, math.MaxInt} {
		v := view.New(nil)
		stand(t, v, counterPair(n))
		put(t, v, reserved(2020), many(1), 0, api.ErrRange)
		put(t, v, reserved(2020), nil, 0, api.ErrArg)
		put(t, v, reserved(2020), many(mostLines+1), 0, api.ErrArg)
		has(t, v, counterPair(n))
		last(t, v, n)
	}
	v := view.New(nil)
	stand(t, v, counterPair(top-1))
	put(t, v, reserved(2020), many(2), top, api.OK)
	tells(t, v, api.Doc{ID: top, Kind: 1, Year: 2020, Lines: 2}, many(2)...)
	set(t, v, top, 1, of(9, 8, 7, 6), api.OK)
	tells(t, v, api.Doc{ID: top, Kind: 1, Year: 2020, Lines: 2}, many(1)[0], of(9, 8, 7, 6))
	all(t, v, 2020, 1, top)
	last(t, v, top)
	put(t, v, reserved(2020), many(1), 0, api.ErrRange)
}

// P30.1: a document that is Put stands in the stead of what had its ID.
func TestPutOver(t *testing.T) {
	v := view.New(nil)
	standWhole(t, v, api.Doc{ID: 1, Kind: 3, Year: 2021, From: 5, Lines: 4}, []api.DocLine{of(9, 9, 9, 9), of(8, 8, 8, 8)})
	put(t, v, reserved(2020), many(2), 1, api.OK)
	tells(t, v, api.Doc{ID: 1, Kind: 1, Year: 2020, Lines: 2}, many(2)...)
}

// P30.1: an ID beyond a key's numbers is none, though a key would hold it as another one.
func TestGetID(t *testing.T) {
	v := view.New(nil)
	for _, id := range []int{0, 1, 5, top - 1, top} {
		d := api.Doc{ID: id, Kind: 3, Year: 2020, From: 8, Lines: 2}
		standWhole(t, v, d, []api.DocLine{of(id, 1, 2, 3), of(4, 5, 6, id)})
		tells(t, v, d, of(id, 1, 2, 3), of(4, 5, 6, id))
	}
	for _, id := range wrong {
		none(t, v, id)
	}
	none(t, v, 2)
	none(t, v, 4)
	none(t, v, 6)
	all(t, v, 2020, 3, 0, 1, 5, top-1, top)
}

// P30.1: 1 to MaxLines lines are told, in order, of as many as there are.
func TestGetLines(t *testing.T) {
	v := view.New(nil)
	l := many(8)
	for n := 1; n <= mostLines; n++ {
		d := api.Doc{ID: 7, Kind: -1, Year: 5, From: 1 << 40, Lines: n}
		standWhole(t, v, d, l)
		tells(t, v, d, l[:n]...)
	}
	for _, n := range []int{0, mostLines + 1, mostLines + 2, -1, -6, 256, 257, 1 << 32, 1<<32 + 1, math.MinInt, math.MinInt + 1, math.MaxInt} {
		standWhole(t, v, api.Doc{ID: 7, Kind: -1, Year: 5, Lines: n}, l)
		none(t, v, 7)
		all(t, v, 5, -1, 7)
	}
}

// P30.1: without one of its lines a document isn't told, and no other line of it is set; that it stands there is told by All.
func TestGetMissing(t *testing.T) {
	for line := range uint32(3) {
		for _, other := range [][]byte{nil, {}, make([]byte, 24), make([]byte, 31), make([]byte, 33), make([]byte, 40)} {
			v := view.New(nil)
			put(t, v, reserved(2020), many(3), 1, api.OK)
			key := linePair(1, line, api.DocLine{}).Key
			if other == nil {
				v.Delete(key)
			} else {
				stand(t, v, api.Pair{Key: key, Value: other})
			}
			none(t, v, 1)
			unset(t, v, 1, 2)
			all(t, v, 2020, 1, 1)
		}
	}
}

// P30.1: what isn't four numbers is no document, and other keys are none's.
func TestGetOthers(t *testing.T) {
	v := view.New(nil)
	value := docPair(1, 1, 2020, 0, 1).Value
	stand(t, v, linePair(1, 0, of(1, 2, 3, 4)))
	for _, other := range [][]byte{nil, value[:31], value[1:], value[:24], append(slices.Clone(value), 0), append(slices.Clone(value), value[:8]...)} {
		stand(t, v, api.Pair{Key: docPair(1, 0, 0, 0, 0).Key, Value: other})
		none(t, v, 1)
		all(t, v, 2020, 1)
		all(t, v, 0, 0)
	}
	v = view.New(nil)
	for _, tag := range []byte{'C', 'E', 'd', 'L'} {
		stand(t, v, pair(tag, []uint32{1}, 1, 2020, 0, 1))
	}
	stand(t, v, linePair(1, 0, of(1, 2, 3, 4)), pair('D', nil, 1, 2020, 0, 1), pair('D', []uint32{1, 0}, 1, 2020, 0, 1))
	stand(t, v, api.Pair{Key: []byte{'D', 0, 0, 1}, Value: value}, api.Pair{Key: []byte{'D', 0, 0, 0, 1, 0}, Value: value})
	none(t, v, 1)
	all(t, v, 2020, 1)
	all(t, v, 0, 0)
	v = view.New(nil)
	stand(t, v, docPair(1, 1, 2020, 0, 1))
	stand(t, v, pair('J', []uint32{1, 0}, 1, 2, 3, 4), pair('L', []uint32{0, 0}, 1, 2, 3, 4), pair('L', []uint32{1, 1}, 1, 2, 3, 4), pair('L', []uint32{1}, 1, 2, 3, 4), pair('L', []uint32{0, 1}, 1, 2, 3, 4))
	none(t, v, 1)
	stand(t, v, linePair(1, 0, of(5, 6, 7, 8)))
	tells(t, v, api.Doc{ID: 1, Kind: 1, Year: 2020, Lines: 1}, of(5, 6, 7, 8))
}

// P30.1: just this line is another one, whatever it is.
func TestSet(t *testing.T) {
	v := view.New(nil)
	for id := 1; id <= 3; id++ {
		put(t, v, reserved(2020), many(3), id, api.OK)
	}
	now := many(3)
	for i, x := range []api.DocLine{of(2, 101, 51, 50), {}, of(2, 1, 9, 9), of(-1, -2, -3, -4), of(math.MaxInt, math.MinInt, math.MaxInt, math.MinInt), of(2, 101, 11, 21), of(2, 101, 11, 21)} {
		line := i % 3
		set(t, v, 2, line, x, api.OK)
		now[line] = x
		want := []api.Pair{counterPair(3)}
		for id, l := range [][]api.DocLine{many(3), now, many(3)} {
			want = append(want, docPair(uint32(id+1), 1, 2020, 0, 3))
			for i, x := range l {
				want = append(want, linePair(uint32(id+1), uint32(i), x))
			}
		}
		has(t, v, want...)
		tells(t, v, api.Doc{ID: 2, Kind: 1, Year: 2020, Lines: 3}, now...)
	}
}

// P30.1: ErrNone, if the document has no such line, also if one stands there, or would be held to be another one.
func TestSetNone(t *testing.T) {
	v := view.New(nil)
	for n := 1; n <= mostLines; n++ {
		put(t, v, reserved(2020), many(n), n, api.OK)
		stand(t, v, linePair(uint32(n), uint32(n), of(1, 2, 3, 4)), linePair(uint32(n), top, of(1, 2, 3, 4)))
		for _, line := range append([]int{n, n + 1, mostLines, mostLines + 1, top}, wrong...) {
			unset(t, v, n, line)
		}
		for line := range n {
			set(t, v, n, line, of(line, 2, 3, 4), api.OK)
		}
	}
	unset(t, v, 0, 0)
	unset(t, v, mostLines+1, 0)
	for _, id := range wrong {
		unset(t, v, id, 0)
	}
}

// P30.1, with the chapter's example.
func TestOpen(t *testing.T) {
	for _, c := range []struct {
		x    api.DocLine
		want int
	}{
		{of(0, 5, 2, 1), 2}, {api.DocLine{}, 0}, {of(9, 0, 0, 0), 0},
		{of(0, 5, 0, 0), 5}, {of(0, 0, 5, 0), -5}, {of(0, 0, 0, 5), -5}, {of(7, 5, 5, 0), 0}, {of(7, 5, 0, 5), 0},
		{of(0, -5, -2, -1), -2}, {of(0, bound, 1, 1), bound - 2},
		{of(0, math.MinInt, 1, 0), math.MaxInt}, {of(0, math.MaxInt, -1, 0), math.MinInt}, {of(0, 0, math.MinInt, math.MinInt), 0}, {of(0, 0, 0, math.MinInt), math.MinInt},
	} {
		if got := Open(c.x); got != c.want {
			t.Errorf("Open %v: %d, not %d", c.x, got, c.want)
		}
	}
}

// right is what P30.1 says, with numbers of any size.
func right(x api.DocLine) bool {
	open := big.NewInt(int64(x.Original))
	open.Sub(open, big.NewInt(int64(x.Liquidated)))
	open.Sub(open, big.NewInt(int64(x.Cancelled)))
	for _, n := range []*big.Int{open, big.NewInt(int64(x.Original)), big.NewInt(int64(x.Liquidated)), big.NewInt(int64(x.Cancelled))} {
		if n.Sign() < 0 || n.Cmp(big.NewInt(bound)) > 0 {
			return false
		}
	}
	return true
}

// P30.1: numbers around all edges, with each other; of what node it is doesn't count.
func TestRight(t *testing.T) {
	for _, x := range []api.DocLine{{}, of(0, 5, 2, 1), of(0, 5, 5, 0), of(0, 5, 0, 5), of(0, 5, 2, 3), of(-1, 5, 2, 1), of(math.MinInt, bound, 0, 0), of(math.MaxInt, bound, bound, 0), of(0, bound, 0, bound), of(0, bound, 1, bound-1)} {
		if !Right(x) {
			t.Errorf("%v is not right", x)
		}
	}
	for _, x := range []api.DocLine{of(0, 5, 2, 4), of(0, 5, 6, 0), of(0, 5, 0, 6), of(0, -1, 0, 0), of(0, 5, -1, 0), of(0, 5, 0, -1), of(0, 5, -1, 6), of(0, 5, 6, -1), of(0, -1, -1, 0), of(0, bound+1, 0, 0), of(0, bound+1, 1, 0), of(0, bound+1, 0, bound+1), of(0, bound, -1, 0), of(0, bound, bound, bound)} {
		if Right(x) {
			t.Errorf("%v is right", x)
		}
	}
	var edges []int
	for _, n := range []int{0, 5, bound / 2, bound, -bound, 2 * bound, 1 << 62, math.MinInt, math.MaxInt} {
		edges = append(edges, n-1, n, n+1)
	}
	for _, original := range edges {
		for _, liquidated := range edges {
			for _, cancelled := range edges {
				x := of(3, original, liquidated, cancelled)
				if got := Right(x); got != right(x) {
					t.Errorf("Right %v: %t", x, got)
				}
			}
		}
	}
}

// P30.1: of that year and kind alone, rising, in whatever order they came.
func TestAll(t *testing.T) {
	v := view.New(nil)
	all(t, v, 0, 0)
	for _, id := range []int{300, 2, top, 255, 65536, 0, 1, 256} {
		standWhole(t, v, api.Doc{ID: id, Kind: 2, Year: 2020, Lines: 1}, many(1))
	}
	standWhole(t, v, api.Doc{ID: 3, Kind: 1, Year: 2020, From: 2020, Lines: 2}, many(2))
	standWhole(t, v, api.Doc{ID: 4, Kind: 2, Year: 2021, From: 2, Lines: 2}, many(2))
	standWhole(t, v, api.Doc{ID: 5, Kind: 2020, Year: 2, Lines: 1}, many(1))
	standWhole(t, v, api.Doc{ID: 6, Kind: -2, Year: -2020, Lines: 1}, many(1))
	standWhole(t, v, api.Doc{ID: 7, Kind: 1<<32 + 2, Year: 1<<32 + 2020, Lines: 1}, many(1))
	standWhole(t, v, api.Doc{ID: 8, Lines: 1}, many(1))
	all(t, v, 2020, 2, 0, 1, 2, 255, 256, 300, 65536, top)
	all(t, v, 2020, 1, 3)
	all(t, v, 2021, 2, 4)
	all(t, v, 2, 2020, 5)
	all(t, v, -2020, -2, 6)
	all(t, v, 1<<32+2020, 1<<32+2, 7)
	all(t, v, 0, 0, 8)
	for _, other := range [][2]int{{2020, 3}, {2020, 0}, {2020, -2}, {2020, 1<<32 + 2}, {2021, 1}, {2019, 2}, {2022, 2}, {1<<32 + 2020, 2}, {math.MinInt, 2}, {2020, math.MaxInt}} {
		all(t, v, other[0], other[1])
	}
}

// P30.1
func TestLast(t *testing.T) {
	v := view.New(nil)
	for n := 1; n <= 20; n++ {
		put(t, v, reserved(2020), many(1), n, api.OK)
		last(t, v, n)
	}
	// Another counter's numbers, and documents, count for nothing.
	stand(t, v, pair('S', []uint32{0}, 70), pair('S', []uint32{1}, 80), pair('S', []uint32{3}, 85), pair('S', nil, 90), docPair(99, 1, 2020, 0, 1))
	last(t, v, 20)
	stand(t, v, counterPair(1234))
	last(t, v, 1234)
	put(t, v, reserved(2020), many(1), 1235, api.OK)
	stand(t, v, pair('S', []uint32{2}, 5, 6))
	last(t, v, 0)
}

// P30.1, P30.2: the view is changed, and nothing below it till its Commit.
func TestOnDisk(t *testing.T) {
	d, _ := disk.New(201)
	k, err := kv.Format(d)
	if err != api.OK {
		t.Fatalf("Format: %d", err)
	}
	v := view.New(k)
	put(t, v, reserved(2020), many(2), 1, api.OK)
	has(t, view.New(k))
	commit(t, v)
	want := api.Doc{ID: 1, Kind: 1, Year: 2020, Lines: 2}
	tells(t, view.New(k), want, many(2)...)
	before := v.Scan(nil)
	set(t, v, 1, 1, of(9, 8, 7, 6), api.OK)
	put(t, v, reserved(2020), many(1), 2, api.OK)
	tells(t, v, want, many(2)[0], of(9, 8, 7, 6))
	all(t, v, 2020, 1, 1, 2)
	v.Abort()
	has(t, v, before...)
	tells(t, v, want, many(2)...)
	set(t, v, 1, 0, of(9, 8, 7, 6), api.OK)
	commit(t, v)
	tells(t, view.New(k), want, of(9, 8, 7, 6), many(2)[1])
	last(t, view.New(k), 1)

	// Of a view whose store met an error nothing is told.
	d.Arm(0)
	d.Write(0, make([]byte, api.Sector))
	if _, l, ok := Get(v, 1); ok || len(l) != 0 {
		t.Errorf("of a disk that is down: %v", l)
	}
	set(t, v, 1, 0, of(1, 2, 3, 4), api.ErrNone)
	all(t, v, 2020, 1)
	last(t, v, 0)
	if err := v.Err(); err != api.ErrDown {
		t.Errorf("Err: %d", err)
	}
}

func commit(t *testing.T, v *view.View) {
	t.Helper()
	if err := v.Commit(); err != api.OK {
		t.Fatalf("Commit: %d", err)
	}
}

// P30.1, R5: of a view that no call made there is no document.
func TestNoView(t *testing.T) {
	for _, v := range []*view.View{nil, {}} {
		put(t, v, reserved(2020), many(1), 0, api.ErrNil)
		put(t, v, reserved(2020), nil, 0, api.ErrArg)
		put(t, v, reserved(2020), many(mostLines+1), 0, api.ErrArg)
		none(t, v, 1)
		none(t, v, 0)
		none(t, v, -1)
		all(t, v, 2020, 1)
		last(t, v, 0)
	}
}

// R3: what is handed in stays, its spare room too, and what is answered may be changed.
func TestNothingShared(t *testing.T) {
	v := view.New(nil)
	room := many(5)
	put(t, v, reserved(2020), room[:2], 1, api.OK)
	if !slices.Equal(room, many(5)) {
		t.Errorf("the lines are %v now", room)
	}
	clear(room)
	for range 2 {
		_, l, _ := Get(v, 1)
		clear(l[:cap(l)])
		ids := All(v, 2020, 1)
		clear(ids[:cap(ids)])
		tells(t, v, api.Doc{ID: 1, Kind: 1, Year: 2020, Lines: 2}, many(2)...)
		all(t, v, 2020, 1, 1)
	}
}
