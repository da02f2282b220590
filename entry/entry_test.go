package entry

import (
	"bytes"
	"encoding/binary"
	"math"
	"slices"
	"testing"

	"exchequer/api"
	"exchequer/bal"
	"exchequer/disk"
	"exchequer/kv"
	"exchequer/view"
	"exchequer/years"
)

const (
	top = 1<<32 - 1
	// most is MaxTotal, written out.
	most = 4611686018427387904
)

// wrong are IDs that may not be; some are 1 or the last one modulo a power of two, or held as that.
var wrong = []int{math.MinInt, math.MinInt + 1, -1 << 32, 1 - 1<<32, -2, -1, top + 1, top + 2, 1 << 33, math.MaxInt}

// pair is a record, reworked by the library.
func pair(tag byte, key []uint32, nums ...int) api.Pair {
	p := api.Pair{Key: []byte{tag}}
	for _, n := range key {
		p.Key = binary.BigEndian.AppendUint32(p.Key, n)
	}
	for _, n := range nums {
		p.Value = binary.BigEndian.AppendUint64(p.Value, uint64(n))
	}
	return p
}

func entryPair(id uint32, year, kind, lines, of, by int) api.Pair {
	return pair('E', []uint32{id}, year, kind, lines, of, by)
}

func linePair(id, line uint32, l api.Line) api.Pair {
	return pair('J', []uint32{id, line}, l.Fund, l.Object, l.Amount)
}

func balPair(year, fund, object uint32, n int) api.Pair {
	return pair('B', []uint32{year, fund, object}, n)
}

func yearPair(year uint32, state int) api.Pair {
	return pair('Y', []uint32{year}, state)
}

func counterPair(last int) api.Pair {
	return pair('S', []uint32{1}, last)
}

// of is a line of a fund, an object and an amount.
func of(fund, object, amount int) api.Line {
	return api.Line{Fund: fund, Object: object, Amount: amount}
}

// two are lines that are 0 of their fund.
func two(n int) []api.Line {
	return []api.Line{of(100, 5010, n), of(100, 1010, -n)}
}

// many are n lines of one fund each.
func many(n int) []api.Line {
	var l []api.Line
	for i := range n {
		l = append(l, of(100, 1000+i, i+1))
	}
	return l
}

// post is an entry of a year, as it is handed in.
func post(year int) api.Entry {
	return api.Entry{Year: year, Kind: api.EntryPost}
}

// open makes a view in memory with open years.
func open(t *testing.T, all ...int) *view.View {
	t.Helper()
	v := view.New(nil)
	openIn(t, v, all...)
	return v
}

func openIn(t *testing.T, v *view.View, all ...int) {
	t.Helper()
	for _, year := range all {
		if err := years.Open(v, year); err != api.OK {
			t.Fatalf("Open %d: %d", year, err)
		}
	}
}

func shut(t *testing.T, v *view.View, year int) {
	t.Helper()
	if err := years.Shut(v, year); err != api.OK {
		t.Fatalf("Shut %d: %d", year, err)
	}
}

func commit(t *testing.T, v *view.View) {
	t.Helper()
	if err := v.Commit(); err != api.OK {
		t.Fatalf("Commit: %d", err)
	}
}

// stand lets pairs stand in a view.
func stand(t *testing.T, v *view.View, pairs ...api.Pair) {
	t.Helper()
	for _, p := range pairs {
		if err := v.Put(p.Key, p.Value); err != api.OK {
			t.Fatalf("Put: %d", err)
		}
	}
}

// standWhole lets an entry with its lines stand in a view.
func standWhole(t *testing.T, v *view.View, e api.Entry, l []api.Line) {
	t.Helper()
	stand(t, v, entryPair(uint32(e.ID), e.Year, e.Kind, e.Lines, e.Of, e.By))
	for i, one := range l {
		stand(t, v, linePair(uint32(e.ID), uint32(i), one))
	}
}

func samePair(a, b api.Pair) bool {
	return bytes.Equal(a.Key, b.Key) && bytes.Equal(a.Value, b.Value)
}

// has looks that just these pairs, in any order, stand in a view.
func has(t *testing.T, v *view.View, want ...api.Pair) {
	t.Helper()
	want = slices.Clone(want)
	slices.SortFunc(want, func(a, b api.Pair) int { return bytes.Compare(a.Key, b.Key) })
	if got := v.Scan(nil); !slices.EqualFunc(got, want, samePair) {
		t.Errorf("there stand %v, not %v", got, want)
	}
}

func put(t *testing.T, v *view.View, e api.Entry, l []api.Line, want int, wantErr api.Errno) {
	t.Helper()
	if id, err := Put(v, e, l); id != want || err != wantErr {
		t.Errorf("Put %v of %d lines: %d, %d, not %d, %d", e, len(l), id, err, want, wantErr)
	}
}

func back(t *testing.T, v *view.View, id, want int, wantErr api.Errno) {
	t.Helper()
	if by, err := Back(v, id); by != want || err != wantErr {
		t.Errorf("Back %d: %d, %d, not %d, %d", id, by, err, want, wantErr)
	}
}

// refused looks that Back refuses an entry, and changes nothing.
func refused(t *testing.T, v *view.View, id int, want api.Errno) {
	t.Helper()
	before := v.Scan(nil)
	back(t, v, id, 0, want)
	has(t, v, before...)
}

// tells looks for an entry with its lines.
func tells(t *testing.T, v *view.View, want api.Entry, lines ...api.Line) {
	t.Helper()
	e, l, ok := Get(v, want.ID)
	if !ok || e != want || !slices.Equal(l, lines) {
		t.Errorf("Get %d: %v %v %v, not %v %v", want.ID, e, l, ok, want, lines)
	}
}

// none looks that of an ID nothing is told.
func none(t *testing.T, v *view.View, id int) {
	t.Helper()
	e, l, ok := Get(v, id)
	if ok || e != (api.Entry{}) || len(l) != 0 {
		t.Errorf("Get %d: %v %v %v", id, e, l, ok)
	}
}

func last(t *testing.T, v *view.View, want int) {
	t.Helper()
	if got := Last(v); got != want {
		t.Errorf("Last: %d, not %d", got, want)
	}
}

// P26.1, with the document's first example.
func TestPut(t *testing.T) {
	v := open(t, 2020)
	last(t, v, 0)
	put(t, v, post(2020), []api.Line{of(100, 5010, 5), of(200, 1010, -5)}, 1, api.OK)
	has(t, v, yearPair(2020, 1), counterPair(1), entryPair(1, 2020, 1, 4, 0, 0),
		linePair(1, 0, of(100, 5010, 5)), linePair(1, 1, of(200, 1010, -5)), linePair(1, 2, of(100, 2900, -5)), linePair(1, 3, of(200, 1900, 5)),
		balPair(2020, 100, 5010, 5), balPair(2020, 200, 1010, -5), balPair(2020, 100, 2900, -5), balPair(2020, 200, 1900, 5))
	tells(t, v, api.Entry{ID: 1, Year: 2020, Kind: 1, Lines: 4}, of(100, 5010, 5), of(200, 1010, -5), of(100, 2900, -5), of(200, 1900, 5))
	last(t, v, 1)
}

// P26.1: entries get rising IDs, and their lines are added to their year's balances.
func TestPutMore(t *testing.T) {
	v := open(t, 2020, 2021)
	put(t, v, post(2020), two(5), 1, api.OK)
	put(t, v, post(2021), two(7), 2, api.OK)
	put(t, v, post(2020), two(4), 3, api.OK)
	put(t, v, post(2021), two(-7), 4, api.OK)
	has(t, v, yearPair(2020, 1), yearPair(2021, 1), counterPair(4),
		entryPair(1, 2020, 1, 2, 0, 0), linePair(1, 0, of(100, 5010, 5)), linePair(1, 1, of(100, 1010, -5)),
		entryPair(2, 2021, 1, 2, 0, 0), linePair(2, 0, of(100, 5010, 7)), linePair(2, 1, of(100, 1010, -7)),
		entryPair(3, 2020, 1, 2, 0, 0), linePair(3, 0, of(100, 5010, 4)), linePair(3, 1, of(100, 1010, -4)),
		entryPair(4, 2021, 1, 2, 0, 0), linePair(4, 0, of(100, 5010, -7)), linePair(4, 1, of(100, 1010, 7)),
		balPair(2020, 100, 5010, 9), balPair(2020, 100, 1010, -9))
	last(t, v, 4)
}

// P26.1: of an entry that is handed in Year, Kind and Of count, whatever they are, and nothing else.
func TestPutEntry(t *testing.T) {
	v := open(t, 2020)
	for i, n := range []int{0, 1, 2, 3, 4, 5, 6, -1, 1 << 32, math.MinInt, math.MaxInt} {
		id := i + 1
		put(t, v, api.Entry{ID: 77, Year: 2020, Kind: n, Lines: -9, Of: 1 - n, By: n + 5}, two(1), id, api.OK)
		tells(t, v, api.Entry{ID: id, Year: 2020, Kind: n, Lines: 2, Of: 1 - n}, two(1)...)
	}
	none(t, v, 77)
}

// P26.1: lines are as they come: one, more of one account, such as are not 0 together, of any fund, object and node.
func TestPutLines(t *testing.T) {
	v := open(t, 2020)
	put(t, v, post(2020), []api.Line{of(100, 5010, 5)}, 1, api.OK)
	tells(t, v, api.Entry{ID: 1, Year: 2020, Kind: 1, Lines: 2}, of(100, 5010, 5), of(100, 2900, -5))
	put(t, v, post(2020), []api.Line{of(300, 5010, 1), of(300, 5010, 2), of(300, 5010, -3), of(200, 1010, 0)}, 2, api.OK)
	tells(t, v, api.Entry{ID: 2, Year: 2020, Kind: 1, Lines: 4}, of(300, 5010, 1), of(300, 5010, 2), of(300, 5010, -3), of(200, 1010, 0))
	put(t, v, post(2020), []api.Line{{Fund: -4, Object: 1 << 40, Node: 8, Amount: 3}, {Fund: 1 << 33, Object: -7, Node: -8, Amount: -3}}, 3, api.OK)
	tells(t, v, api.Entry{ID: 3, Year: 2020, Kind: 1, Lines: 4}, of(-4, 1<<40, 3), of(1<<33, -7, -3), of(-4, 2900, -3), of(1<<33, 1900, 3))
	want := []api.Line{of(0, 2900, -3), of(0, top, 3), of(100, 2900, -5), of(100, 5010, 5), of(top, 0, -3), of(top, 1900, 3)}
	if got := bal.All(v, 2020); !slices.Equal(got, want) {
		t.Errorf("balances %v, not %v", got, want)
	}
	put(t, v, post(2020), []api.Line{of(100, 1900, 4), of(100, 2900, -4), of(100, 0, math.MinInt), of(100, 0, math.MinInt)}, 0, api.ErrRange)
}

// P26.1: 1 to 200 lines; more of them stand with what balances them.
func TestPutCount(t *testing.T) {
	v := view.New(nil)
	for _, n := range []int{0, 201, 202, 300, 301, 400, 1000} {
		put(t, v, post(2020), many(n), 0, api.ErrArg)
		put(t, v, post(-1), many(n), 0, api.ErrArg)
	}
	put(t, v, post(2020), []api.Line{}, 0, api.ErrArg)
	has(t, v)
	openIn(t, v, 2020)
	id := 0
	for _, n := range []int{1, 2, 6, 7, 150, 199, 200} {
		id++
		put(t, v, post(2020), many(n), id, api.OK)
		tells(t, v, api.Entry{ID: id, Year: 2020, Kind: 1, Lines: n + 1}, append(many(n), of(100, 2900, -n*(n+1)/2))...)
	}
	before := v.Scan(nil)
	put(t, v, post(2020), nil, 0, api.ErrArg)
	put(t, v, post(2020), many(201), 0, api.ErrArg)
	has(t, v, before...)
}

// P26.1, P26.2: 200 lines of as many funds stand as 400; more than 300 aren't told.
func TestPutManyFunds(t *testing.T) {
	v := open(t, 2020)
	for i, n := range []int{149, 150, 151, 200} {
		id := i + 1
		var l, due []api.Line
		for i := range n {
			l = append(l, of(100+i, 5010, 1))
			due = append(due, of(100+i, 2900, -1))
		}
		put(t, v, post(2020), l, id, api.OK)
		for _, p := range []api.Pair{entryPair(uint32(id), 2020, 1, 2*n, 0, 0), linePair(uint32(id), uint32(2*n-1), due[n-1])} {
			if value, ok := v.Get(p.Key); !ok || !bytes.Equal(value, p.Value) {
				t.Errorf("of %d funds there stands %v %v", n, value, ok)
			}
		}
		if n <= 150 {
			tells(t, v, api.Entry{ID: id, Year: 2020, Kind: 1, Lines: 2 * n}, append(l, due...)...)
			continue
		}
		none(t, v, id)
		refused(t, v, id, api.ErrNone)
	}
}

// P26.1: the year is open; else nothing is changed, and no ID is given out.
func TestPutYear(t *testing.T) {
	v := open(t, 2020, 2021)
	shut(t, v, 2020)
	before := v.Scan(nil)
	put(t, v, post(2020), two(5), 0, api.ErrClosed)
	for _, year := range []int{2019, 2022, 1999, 2100, 0, -2021, -1, 1<<32 + 2021, math.MinInt + 2021, math.MaxInt} {
		put(t, v, post(year), two(5), 0, api.ErrNone)
	}
	has(t, v, before...)
	put(t, v, post(2021), two(5), 1, api.OK)
	// The year's error is ahead of the counter's.
	stand(t, v, counterPair(top))
	put(t, v, post(2020), two(5), 0, api.ErrClosed)
	put(t, v, post(2019), two(5), 0, api.ErrNone)
	put(t, v, post(2021), two(5), 0, api.ErrRange)
}

// P26.1: IDs end with 2^32 - 1.
func TestPutCounter(t *testing.T) {
	for _, n := range []int{math.MinInt, -2, -1, top, top + 1, math.MaxInt} {
		v := open(t, 2020)
		stand(t, v, counterPair(n))
		before := v.Scan(nil)
		put(t, v, post(2020), two(5), 0, api.ErrRange)
		has(t, v, before...)
		last(t, v, n)
	}
	v := open(t, 2020)
	stand(t, v, counterPair(top-1))
	put(t, v, post(2020), two(5), top, api.OK)
	tells(t, v, api.Entry{ID: top, Year: 2020, Kind: 1, Lines: 2}, two(5)...)
	last(t, v, top)
	put(t, v, post(2020), two(5), 0, api.ErrRange)
	back(t, v, top, 0, api.ErrRange)
}

// P26.1: the balances' error, of any line; with an Abort nothing is changed.
func TestPutRange(t *testing.T) {
	v := open(t, 2020)
	put(t, v, post(2020), []api.Line{of(100, 5010, most), of(100, 1010, -most)}, 1, api.OK)
	commit(t, v)
	before := v.Scan(nil)
	for _, l := range [][]api.Line{
		{of(100, 5010, 1), of(100, 1010, -1)},
		{of(200, 3000, 1), of(100, 1010, -1)},
		{of(100, 3000, 1), of(100, 3000, 1), of(200, 5010, -2), of(100, 1010, -1)},
		{of(200, 5010, most+1)},
		{of(200, 5010, math.MinInt)},
		{of(200, 5010, most), of(200, 5010, 1), of(200, 5010, -1)},
		// Each of the lines that are handed in fits, but not what balances them.
		{of(200, 5010, most), of(200, 1010, most)},
	} {
		put(t, v, post(2020), l, 0, api.ErrRange)
		v.Abort()
		has(t, v, before...)
	}
	put(t, v, post(2020), []api.Line{of(100, 5010, -1), of(100, 1010, 1)}, 2, api.OK)
}

// P26.2: an ID beyond a key's numbers is none, though a key would hold it as another one.
func TestGetID(t *testing.T) {
	v := view.New(nil)
	for _, id := range []int{0, 1, 5, top - 1, top} {
		e := api.Entry{ID: id, Year: 2020, Kind: 1, Lines: 1, Of: 8, By: 9}
		standWhole(t, v, e, []api.Line{of(100, 5010, id)})
		tells(t, v, e, of(100, 5010, id))
	}
	for _, id := range wrong {
		none(t, v, id)
		refused(t, v, id, api.ErrNone)
	}
	none(t, v, 2)
	none(t, v, 4)
	none(t, v, 6)
}

// P26.2: 0 to 300 lines are told, in order, of as many as there are.
func TestGetLines(t *testing.T) {
	v := view.New(nil)
	l := many(302)
	for _, n := range []int{0, 1, 2, 11, 256, 257, 299, 300} {
		e := api.Entry{ID: 7, Year: 5, Kind: -1, Lines: n, Of: 1 << 40, By: -2}
		standWhole(t, v, e, l)
		tells(t, v, e, l[:n]...)
	}
	for _, n := range []int{301, 302, -1, -300, 1 << 32, 1<<32 + 1, math.MinInt, math.MinInt + 1, math.MaxInt} {
		standWhole(t, v, api.Entry{ID: 7, Year: 5, Kind: 1, Lines: n}, l)
		none(t, v, 7)
		refused(t, v, 7, api.ErrNone)
	}
}

// P26.2: without one of its lines an entry isn't told, nor taken back.
func TestGetMissing(t *testing.T) {
	for line := range uint32(3) {
		for _, other := range [][]byte{nil, {}, make([]byte, 16), make([]byte, 23), make([]byte, 25), make([]byte, 32)} {
			v := open(t, 2020)
			put(t, v, post(2020), []api.Line{of(100, 5010, 5), of(100, 1010, -5), of(100, 1010, 0)}, 1, api.OK)
			key := linePair(1, line, api.Line{}).Key
			if other == nil {
				v.Delete(key)
			} else {
				stand(t, v, api.Pair{Key: key, Value: other})
			}
			none(t, v, 1)
			refused(t, v, 1, api.ErrNone)
		}
	}
}

// P26.2: what isn't five numbers is no entry, and other keys are none's.
func TestGetOthers(t *testing.T) {
	for size := range 60 {
		v := view.New(nil)
		stand(t, v, api.Pair{Key: entryPair(1, 0, 0, 0, 0, 0).Key, Value: make([]byte, size)})
		if size == 40 {
			tells(t, v, api.Entry{ID: 1})
			continue
		}
		none(t, v, 1)
	}
	v := view.New(nil)
	for _, tag := range []byte{'D', 'F', 'e', 'J'} {
		stand(t, v, pair(tag, []uint32{1}, 2020, 1, 0, 0, 0))
	}
	stand(t, v, pair('E', nil, 2020, 1, 0, 0, 0), pair('E', []uint32{1, 0}, 2020, 1, 0, 0, 0))
	none(t, v, 1)
	standWhole(t, v, api.Entry{ID: 1, Year: 2020, Kind: 1, Lines: 1}, nil)
	none(t, v, 1)
	stand(t, v, pair('L', []uint32{1, 0}, 1, 2, 3), pair('J', []uint32{0, 0}, 1, 2, 3), pair('J', []uint32{1, 1}, 1, 2, 3), pair('J', []uint32{1}, 1, 2, 3))
	none(t, v, 1)
	stand(t, v, pair('J', []uint32{1, 0}, 1, 2, 3))
	tells(t, v, api.Entry{ID: 1, Year: 2020, Kind: 1, Lines: 1}, of(1, 2, 3))
}

// P26.2, with the chapter's example and the document's second.
func TestBack(t *testing.T) {
	v := open(t, 2020)
	put(t, v, post(2020), []api.Line{of(100, 5010, 5), of(200, 1010, -5)}, 1, api.OK)
	back(t, v, 1, 2, api.OK)
	has(t, v, yearPair(2020, 1), counterPair(2),
		entryPair(1, 2020, 1, 4, 0, 2), linePair(1, 0, of(100, 5010, 5)), linePair(1, 1, of(200, 1010, -5)), linePair(1, 2, of(100, 2900, -5)), linePair(1, 3, of(200, 1900, 5)),
		entryPair(2, 2020, 2, 4, 1, 0), linePair(2, 0, of(100, 5010, -5)), linePair(2, 1, of(200, 1010, 5)), linePair(2, 2, of(100, 2900, 5)), linePair(2, 3, of(200, 1900, -5)))
	tells(t, v, api.Entry{ID: 1, Year: 2020, Kind: 1, Lines: 4, By: 2}, of(100, 5010, 5), of(200, 1010, -5), of(100, 2900, -5), of(200, 1900, 5))
	tells(t, v, api.Entry{ID: 2, Year: 2020, Kind: 2, Lines: 4, Of: 1}, of(100, 5010, -5), of(200, 1010, 5), of(100, 2900, 5), of(200, 1900, -5))
	last(t, v, 2)
	refused(t, v, 1, api.ErrState)
	refused(t, v, 2, api.ErrState)
	refused(t, v, 3, api.ErrNone)
	refused(t, v, 0, api.ErrNone)
}

// P26.2: just what was posted, and not taken back, is.
func TestBackState(t *testing.T) {
	v := open(t, 2020)
	stand(t, v, counterPair(50))
	for i, kind := range []int{2, 3, 4, 5, 0, 6, -1, 1<<32 + 1, math.MinInt + 1, math.MaxInt} {
		put(t, v, api.Entry{Year: 2020, Kind: kind}, two(1), 51+i, api.OK)
		refused(t, v, 51+i, api.ErrState)
	}
	for _, by := range []int{1, 2, 7, -1, 1 << 32, math.MinInt, math.MaxInt} {
		standWhole(t, v, api.Entry{ID: 7, Year: 2020, Kind: 1, Lines: 2, By: by}, two(1))
		refused(t, v, 7, api.ErrState)
	}
	// It may be of something, which stays.
	standWhole(t, v, api.Entry{ID: 7, Year: 2020, Kind: 1, Lines: 2, Of: 33}, two(1))
	back(t, v, 7, 61, api.OK)
	tells(t, v, api.Entry{ID: 7, Year: 2020, Kind: 1, Lines: 2, Of: 33, By: 61}, two(1)...)
	tells(t, v, api.Entry{ID: 61, Year: 2020, Kind: 2, Lines: 2, Of: 7}, two(-1)...)
}

// P26.2, R1: ErrNone is ahead of ErrState, that of ErrArg, and that of the year's and the counter's errors.
func TestBackOrder(t *testing.T) {
	v := open(t, 2020, 2021)
	shut(t, v, 2020)
	stand(t, v, counterPair(top))
	standWhole(t, v, api.Entry{ID: 1, Year: 2020, Kind: 2, Lines: 1, By: 3}, nil)
	refused(t, v, 1, api.ErrNone)
	standWhole(t, v, api.Entry{ID: 1, Year: 2020, Kind: 2}, nil)
	refused(t, v, 1, api.ErrState)
	standWhole(t, v, api.Entry{ID: 1, Year: 2020, Kind: 1, By: 3}, nil)
	refused(t, v, 1, api.ErrState)
	for _, year := range []int{2020, 2019, 2021} {
		standWhole(t, v, api.Entry{ID: 1, Year: year, Kind: 1}, nil)
		refused(t, v, 1, api.ErrArg)
	}
	for year, err := range map[int]api.Errno{2020: api.ErrClosed, 2019: api.ErrNone, 2021: api.ErrRange, -1: api.ErrNone, 1<<32 + 2021: api.ErrNone} {
		standWhole(t, v, api.Entry{ID: 1, Year: year, Kind: 1, Lines: 2}, two(1))
		refused(t, v, 1, err)
	}
}

// P26.2: an entry of a year that was closed since isn't taken back; another year's is.
func TestBackYear(t *testing.T) {
	v := open(t, 2020, 2021)
	put(t, v, post(2020), two(5), 1, api.OK)
	put(t, v, post(2021), two(5), 2, api.OK)
	shut(t, v, 2020)
	refused(t, v, 1, api.ErrClosed)
	back(t, v, 2, 3, api.OK)
	tells(t, v, api.Entry{ID: 3, Year: 2021, Kind: 2, Lines: 2, Of: 2}, two(-5)...)
	tells(t, v, api.Entry{ID: 1, Year: 2020, Kind: 1, Lines: 2}, two(5)...)
}

// P26.2: what takes back has just the other's lines, more than may be Put, and no others.
func TestBackLines(t *testing.T) {
	for _, n := range []int{1, 2, 199, 200, 201, 300} {
		v := open(t, 2020)
		stand(t, v, counterPair(8))
		l := many(n)
		standWhole(t, v, api.Entry{ID: 4, Year: 2020, Kind: 1, Lines: n}, l)
		back(t, v, 4, 9, api.OK)
		for i := range l {
			l[i].Amount = -l[i].Amount
		}
		tells(t, v, api.Entry{ID: 9, Year: 2020, Kind: 2, Lines: n, Of: 4}, l...)
		if got := bal.All(v, 2020); !slices.Equal(got, l) {
			t.Errorf("balances %v, not %v", got, l)
		}
		if value, ok := v.Get(linePair(9, uint32(n), api.Line{}).Key); ok {
			t.Errorf("a line more: %v", value)
		}
	}
}

// P26.2: the balances' error; with an Abort nothing is changed.
func TestBackRange(t *testing.T) {
	for _, l := range [][]api.Line{
		{of(100, 5010, most+1)},
		{of(100, 5010, -most-1)},
		// Turned it is itself.
		{of(100, 5010, math.MinInt)},
		{of(100, 5010, math.MaxInt)},
		{of(200, 5010, 1), of(200, 1010, 1), of(200, 1010, most)},
	} {
		v := open(t, 2020)
		standWhole(t, v, api.Entry{ID: 4, Year: 2020, Kind: 1, Lines: len(l)}, l)
		commit(t, v)
		before := v.Scan(nil)
		back(t, v, 4, 0, api.ErrRange)
		v.Abort()
		has(t, v, before...)
	}
	v := open(t, 2020)
	put(t, v, post(2020), []api.Line{of(100, 5010, most), of(100, 1010, -most)}, 1, api.OK)
	put(t, v, post(2020), []api.Line{of(100, 5010, -most), of(100, 1010, most)}, 2, api.OK)
	put(t, v, post(2020), []api.Line{of(100, 5010, -1), of(100, 1010, 1)}, 3, api.OK)
	commit(t, v)
	before := v.Scan(nil)
	back(t, v, 1, 0, api.ErrRange)
	v.Abort()
	has(t, v, before...)
	back(t, v, 2, 4, api.OK)
	back(t, v, 1, 5, api.OK)
}

// now answers the balances of two years.
func now(v *view.View) []api.Line {
	return slices.Concat(bal.All(v, 2020), bal.All(v, 2021))
}

// posted makes the i-th of some entries of all kinds of lines.
func posted(t *testing.T, v *view.View, i int) int {
	t.Helper()
	var l []api.Line
	for j := range 1 + i%6 {
		l = append(l, of(100*(1+(i+j)%4), 1000+i*j%7*10, i*13%17-8+j))
	}
	id, err := Put(v, post(2020+i%2), l)
	if err != api.OK {
		t.Fatalf("Put %v: %d", l, err)
	}
	return id
}

// P26.3: at once.
func TestBalancesAtOnce(t *testing.T) {
	v := open(t, 2020, 2021)
	for i := range 60 {
		before := now(v)
		id := posted(t, v, i)
		back(t, v, id, id+1, api.OK)
		if got := now(v); !slices.Equal(got, before) {
			t.Fatalf("behind Back: %v, not %v", got, before)
		}
		posted(t, v, i)
	}
}

// P26.3: all entries, from the last one on, each to what was ahead of it; or from the first one on, to nothing.
func TestBalancesOfAll(t *testing.T) {
	for _, forward := range []bool{false, true} {
		v := open(t, 2020, 2021)
		var ahead [][]api.Line
		var ids []int
		for i := range 60 {
			ahead = append(ahead, now(v))
			ids = append(ids, posted(t, v, i))
		}
		if forward {
			slices.Reverse(ids)
		}
		for i := len(ids) - 1; i >= 0; i-- {
			back(t, v, ids[i], Last(v)+1, api.OK)
			if got := now(v); !forward && !slices.Equal(got, ahead[i]) {
				t.Fatalf("balances %v, not %v", got, ahead[i])
			}
		}
		if got := now(v); len(got) != 0 {
			t.Fatalf("at last %v", got)
		}
	}
}

// P26.2
func TestLast(t *testing.T) {
	v := open(t, 2020)
	for n := 1; n <= 20; n++ {
		put(t, v, post(2020), two(1), n, api.OK)
		last(t, v, n)
	}
	back(t, v, 20, 21, api.OK)
	last(t, v, 21)
	// Another counter's numbers, and entries, count for nothing.
	stand(t, v, pair('S', []uint32{0}, 70), pair('S', []uint32{2}, 80), pair('S', nil, 90), entryPair(99, 2020, 1, 0, 0, 0))
	last(t, v, 21)
	stand(t, v, counterPair(1234))
	last(t, v, 1234)
	stand(t, v, pair('S', []uint32{1}, 5, 6))
	last(t, v, 0)
}

// P26.1, P26.2: the view is changed, and nothing below it till its Commit.
func TestOnDisk(t *testing.T) {
	d, _ := disk.New(201)
	k, err := kv.Format(d)
	if err != api.OK {
		t.Fatalf("Format: %d", err)
	}
	v := view.New(k)
	openIn(t, v, 2020)
	put(t, v, post(2020), two(5), 1, api.OK)
	has(t, view.New(k))
	commit(t, v)
	tells(t, view.New(k), api.Entry{ID: 1, Year: 2020, Kind: 1, Lines: 2}, two(5)...)
	before := v.Scan(nil)
	back(t, v, 1, 2, api.OK)
	put(t, v, post(2020), two(6), 3, api.OK)
	tells(t, v, api.Entry{ID: 1, Year: 2020, Kind: 1, Lines: 2, By: 2}, two(5)...)
	v.Abort()
	has(t, v, before...)
	back(t, v, 1, 2, api.OK)
	commit(t, v)
	refused(t, view.New(k), 1, api.ErrState)
	last(t, view.New(k), 2)

	// Of a view whose store met an error nothing is told.
	d.Arm(0)
	d.Write(0, make([]byte, api.Sector))
	none(t, v, 1)
	last(t, v, 0)
	back(t, v, 1, 0, api.ErrNone)
	put(t, v, post(2020), two(1), 0, api.ErrNone)
	if err := v.Err(); err != api.ErrDown {
		t.Errorf("Err: %d", err)
	}
}

// P26.1, P26.2, R5: of a view that no call made there is no year, and no entry.
func TestNoView(t *testing.T) {
	for _, v := range []*view.View{nil, {}} {
		put(t, v, post(2020), two(5), 0, api.ErrNone)
		put(t, v, post(2020), nil, 0, api.ErrArg)
		put(t, v, post(2020), many(201), 0, api.ErrArg)
		back(t, v, 1, 0, api.ErrNone)
		none(t, v, 1)
		none(t, v, 0)
		last(t, v, 0)
	}
}

// R3: what is handed in stays, its spare room too, and what is answered may be changed.
func TestNothingShared(t *testing.T) {
	v := open(t, 2020)
	room := []api.Line{{Fund: 100, Object: 5010, Node: 3, Amount: 5}, of(200, 1010, -5), of(9, 9, 9), of(9, 9, 9), of(9, 9, 9)}
	was := slices.Clone(room)
	put(t, v, post(2020), room[:2], 1, api.OK)
	if !slices.Equal(room, was) {
		t.Errorf("the lines are %v now", room)
	}
	clear(room)
	want := []api.Line{of(100, 5010, 5), of(200, 1010, -5), of(100, 2900, -5), of(200, 1900, 5)}
	for range 2 {
		_, l, _ := Get(v, 1)
		clear(l[:cap(l)])
		tells(t, v, api.Entry{ID: 1, Year: 2020, Kind: 1, Lines: 4}, want...)
	}
	back(t, v, 1, 2, api.OK)
	tells(t, v, api.Entry{ID: 1, Year: 2020, Kind: 1, Lines: 4, By: 2}, want...)
}
