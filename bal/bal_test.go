package bal

import (
	"bytes"
	"encoding/binary"
	"math"
	"slices"
	"testing"

	"exchequer/api"
	"exchequer/disk"
	"exchequer/kv"
	"exchequer/view"
)

const (
	top = 1<<32 - 1
	// most is MaxTotal, written out.
	most = 4611686018427387904
)

// keyOf is a balance's key, or another one with that tag, reworked by the library.
func keyOf(nums ...uint32) []byte {
	key := []byte{'B'}
	for _, n := range nums {
		key = binary.BigEndian.AppendUint32(key, n)
	}
	return key
}

// valueOf is numbers as a value, reworked by the library.
func valueOf(nums ...int) []byte {
	var value []byte
	for _, n := range nums {
		value = binary.BigEndian.AppendUint64(value, uint64(n))
	}
	return value
}

// pair is what stands of a balance.
func pair(year, fund, object uint32, n int) api.Pair {
	return api.Pair{Key: keyOf(year, fund, object), Value: valueOf(n)}
}

// of is a line of a fund, an object and an amount.
func of(fund, object, amount int) api.Line {
	return api.Line{Fund: fund, Object: object, Amount: amount}
}

// stand lets a value stand at a key.
func stand(t *testing.T, v *view.View, key, value []byte) {
	t.Helper()
	if err := v.Put(key, value); err != api.OK {
		t.Fatalf("Put: %d", err)
	}
}

// has looks that just these pairs stand in a view.
func has(t *testing.T, v *view.View, want ...api.Pair) {
	t.Helper()
	got := v.Scan(nil)
	same := len(got) == len(want)
	for i := 0; same && i < len(want); i++ {
		same = bytes.Equal(got[i].Key, want[i].Key) && bytes.Equal(got[i].Value, want[i].Value)
	}
	if !same {
		t.Errorf("there stand %v, not %v", got, want)
	}
}

func add(t *testing.T, v *view.View, year int, l api.Line, want api.Errno) {
	t.Helper()
	if err := Add(v, year, l); err != want {
		t.Errorf("Add %d %v: %d, not %d", year, l, err, want)
	}
}

func get(t *testing.T, v *view.View, year, fund, object, want int) {
	t.Helper()
	if got := Get(v, year, fund, object); got != want {
		t.Errorf("Get %d %d %d: %d, not %d", year, fund, object, got, want)
	}
}

func all(t *testing.T, v *view.View, year int, want ...api.Line) {
	t.Helper()
	if got := All(v, year); !slices.Equal(got, want) {
		t.Errorf("All %d: %v, not %v", year, got, want)
	}
}

// P25.1
func TestAdd(t *testing.T) {
	v := view.New(nil)
	get(t, v, 2020, 100, 5010, 0)
	all(t, v, 2020)
	add(t, v, 2020, of(100, 5010, 5), api.OK)
	get(t, v, 2020, 100, 5010, 5)
	has(t, v, pair(2020, 100, 5010, 5))
	add(t, v, 2020, of(100, 5010, 7), api.OK)
	get(t, v, 2020, 100, 5010, 12)
	has(t, v, pair(2020, 100, 5010, 12))
	add(t, v, 2020, of(100, 5010, -20), api.OK)
	get(t, v, 2020, 100, 5010, -8)
	has(t, v, pair(2020, 100, 5010, -8))
	all(t, v, 2020, of(100, 5010, -8))
}

// P25.1: a year, a fund and an object each make a balance of its own.
func TestEachItsOwn(t *testing.T) {
	v := view.New(nil)
	add(t, v, 2021, of(100, 1010, 1), api.OK)
	add(t, v, 2020, of(200, 1010, 2), api.OK)
	add(t, v, 2020, of(100, 5010, 3), api.OK)
	add(t, v, 2020, of(100, 1010, 4), api.OK)
	add(t, v, 2020, of(300, 1010, -5), api.OK)
	has(t, v, pair(2020, 100, 1010, 4), pair(2020, 100, 5010, 3), pair(2020, 200, 1010, 2), pair(2020, 300, 1010, -5), pair(2021, 100, 1010, 1))
	get(t, v, 2021, 100, 1010, 1)
	get(t, v, 2020, 200, 1010, 2)
	get(t, v, 2020, 100, 5010, 3)
	get(t, v, 2020, 100, 1010, 4)
	get(t, v, 2021, 100, 5010, 0)
	get(t, v, 1010, 100, 2020, 0)
	get(t, v, 100, 2020, 1010, 0)
	all(t, v, 2020, of(100, 1010, 4), of(100, 5010, 3), of(200, 1010, 2), of(300, 1010, -5))
	all(t, v, 2021, of(100, 1010, 1))
	all(t, v, 2019)
	all(t, v, 2022)
}

// P25.1: a line's node counts for nothing.
func TestNode(t *testing.T) {
	v := view.New(nil)
	add(t, v, 2020, api.Line{Fund: 100, Object: 5010, Node: 7, Amount: 5}, api.OK)
	add(t, v, 2020, api.Line{Fund: 100, Object: 5010, Node: -8, Amount: 6}, api.OK)
	has(t, v, pair(2020, 100, 5010, 11))
	all(t, v, 2020, of(100, 5010, 11))
}

// P25.1, P25.2, with the chapter's example: of 0 nothing stands, nor stays.
func TestNothing(t *testing.T) {
	v := view.New(nil)
	add(t, v, 2020, of(100, 5010, 0), api.OK)
	has(t, v)
	for _, n := range []int{5, -5, 1, most, -most, 1 << 32, -1 << 32} {
		add(t, v, 2020, of(100, 5010, n), api.OK)
		has(t, v, pair(2020, 100, 5010, n))
		add(t, v, 2020, of(100, 5010, 0), api.OK)
		has(t, v, pair(2020, 100, 5010, n))
		add(t, v, 2020, of(100, 5010, -n), api.OK)
		has(t, v)
		get(t, v, 2020, 100, 5010, 0)
		all(t, v, 2020)
	}
	add(t, v, 2020, of(100, 1010, 3), api.OK)
	add(t, v, 2020, of(100, 5010, 5), api.OK)
	add(t, v, 2020, of(100, 5010, -2), api.OK)
	add(t, v, 2020, of(100, 5010, -3), api.OK)
	has(t, v, pair(2020, 100, 1010, 3))
}

// P25.2: from any balance on.
func TestContrary(t *testing.T) {
	for _, from := range []int{0, 1, -1, 7, most, -most, most - 9, 9 - most} {
		for _, n := range []int{0, 1, -1, 9, -9, from, -from} {
			v := view.New(nil)
			add(t, v, 2020, of(100, 5010, from), api.OK)
			before := v.Scan(nil)
			if err := Add(v, 2020, of(100, 5010, n)); err != api.OK {
				has(t, v, before...)
				continue
			}
			get(t, v, 2020, 100, 5010, from+n)
			add(t, v, 2020, of(100, 5010, -n), api.OK)
			has(t, v, before...)
		}
	}
}

// P25.1: what is there, what is added, and both together fit; else nothing is changed.
func TestRange(t *testing.T) {
	for _, c := range []struct {
		from, n int
		err     api.Errno
	}{
		{0, most, api.OK}, {0, -most, api.OK}, {most, -most, api.OK}, {-most, most, api.OK}, {most - 1, 1, api.OK}, {1 - most, -1, api.OK}, {most, 0, api.OK}, {-most, 0, api.OK},
		{0, most + 1, api.ErrRange}, {0, -most - 1, api.ErrRange}, {most, 1, api.ErrRange}, {-most, -1, api.ErrRange}, {1, most, api.ErrRange}, {-1, -most, api.ErrRange},
		{most, most, api.ErrRange}, {-most, -most, api.ErrRange}, {0, math.MaxInt, api.ErrRange}, {0, math.MinInt, api.ErrRange}, {1, math.MaxInt, api.ErrRange}, {-1, math.MinInt, api.ErrRange},
		{-1, most + 1, api.ErrRange}, {1, -most - 1, api.ErrRange}, {most + 1, -1, api.ErrRange}, {-most - 1, 1, api.ErrRange}, {most + 1, 0, api.ErrRange}, {most + 1, -most - 1, api.ErrRange},
		{math.MinInt, math.MinInt, api.ErrRange}, {math.MinInt, 0, api.ErrRange}, {math.MaxInt, math.MinInt, api.ErrRange}, {math.MaxInt, -math.MaxInt, api.ErrRange},
	} {
		v := view.New(nil)
		if c.from != 0 {
			stand(t, v, keyOf(2020, 100, 5010), valueOf(c.from))
		}
		get(t, v, 2020, 100, 5010, c.from)
		before := v.Scan(nil)
		add(t, v, 2020, of(100, 5010, c.n), c.err)
		if c.err != api.OK {
			has(t, v, before...)
			continue
		}
		get(t, v, 2020, 100, 5010, c.from+c.n)
	}
}

// P25.1: years, funds and objects are held as a key's numbers, but All takes no year that can't be one.
func TestHeld(t *testing.T) {
	for _, c := range []struct {
		n   int
		key uint32
	}{{math.MinInt, 0}, {-1 << 32, 0}, {-1, 0}, {0, 0}, {1, 1}, {256, 256}, {top, top}, {top + 1, top}, {1<<32 + 1, top}, {math.MaxInt, top}} {
		for _, key := range [][3]uint32{{c.key, 100, 5010}, {2020, c.key, 5010}, {2020, 100, c.key}} {
			n := [3]int{int(key[0]), int(key[1]), int(key[2])}
			for i := range key {
				if key[i] == c.key {
					n[i] = c.n
				}
			}
			v := view.New(nil)
			add(t, v, n[0], of(n[1], n[2], 5), api.OK)
			has(t, v, pair(key[0], key[1], key[2], 5))
			get(t, v, n[0], n[1], n[2], 5)
			get(t, v, int(key[0]), int(key[1]), int(key[2]), 5)
			all(t, v, int(key[0]), of(int(key[1]), int(key[2]), 5))
			if n[0] != int(key[0]) {
				all(t, v, n[0])
			}
			add(t, v, n[0], of(n[1], n[2], -5), api.OK)
			has(t, v)
		}
	}
}

// P25.1: All of a year that is none tells nothing, whatever stands at the years' ends.
func TestYearsOfAll(t *testing.T) {
	v := view.New(nil)
	for _, year := range []int{0, 1, 2020, top - 1, top} {
		add(t, v, year, of(100, 5010, year+1), api.OK)
	}
	for _, year := range []int{0, 1, 2020, top - 1, top} {
		all(t, v, year, of(100, 5010, year+1))
	}
	for _, year := range []int{math.MinInt, math.MinInt + 2020, -1 << 32, -2020, -1, top + 1, 1<<32 + 1, 1<<32 + 2020, math.MaxInt} {
		all(t, v, year)
	}
}

// P25.1: what isn't one number is no balance.
func TestOneNumber(t *testing.T) {
	for size := range 40 {
		v := view.New(nil)
		value := bytes.Repeat([]byte{1}, size)
		stand(t, v, keyOf(2020, 100, 5010), value)
		stand(t, v, keyOf(2020, 200, 5010), valueOf(3))
		if size == 8 {
			get(t, v, 2020, 100, 5010, 0x0101010101010101)
			all(t, v, 2020, of(100, 5010, 0x0101010101010101), of(200, 5010, 3))
			continue
		}
		get(t, v, 2020, 100, 5010, 0)
		all(t, v, 2020, of(200, 5010, 3))
		add(t, v, 2020, of(100, 5010, most+1), api.ErrRange)
		has(t, v, api.Pair{Key: keyOf(2020, 100, 5010), Value: value}, pair(2020, 200, 5010, 3))
		add(t, v, 2020, of(100, 5010, -4), api.OK)
		has(t, v, pair(2020, 100, 5010, -4), pair(2020, 200, 5010, 3))
		stand(t, v, keyOf(2020, 100, 5010), value)
		add(t, v, 2020, of(100, 5010, 0), api.OK)
		has(t, v, pair(2020, 200, 5010, 3))
	}
}

// P25.1: a number that Add didn't put there is told, also 0, which Add takes away.
func TestOtherNumbers(t *testing.T) {
	v := view.New(nil)
	stand(t, v, keyOf(2020, 100, 5010), valueOf(0))
	stand(t, v, keyOf(2020, 7, 5), valueOf(math.MinInt))
	get(t, v, 2020, 100, 5010, 0)
	get(t, v, 2020, 7, 5, math.MinInt)
	all(t, v, 2020, of(7, 5, math.MinInt), of(100, 5010, 0))
	add(t, v, 2020, of(100, 5010, 0), api.OK)
	has(t, v, pair(2020, 7, 5, math.MinInt))
}

// P25.1: other keys are no balance's.
func TestOtherKeys(t *testing.T) {
	v := view.New(nil)
	others := [][]byte{{'B'}, keyOf(2020), keyOf(2020, 100), keyOf(2020, 100, 5010, 0), keyOf(2020, 100, 5010, 1, 2, 3, 4), append(keyOf(2020, 100, 5010), 0), keyOf(2020, 100, 5010)[:12], append(keyOf(2020), 0)}
	for _, tag := range []byte{'A', 'C', 'b', 'D'} {
		others = append(others, append([]byte{tag}, keyOf(2020, 100, 5010)[1:]...))
	}
	for _, key := range others {
		stand(t, v, key, valueOf(7))
	}
	get(t, v, 2020, 100, 5010, 0)
	all(t, v, 2020)
	add(t, v, 2020, of(100, 5010, 5), api.OK)
	get(t, v, 2020, 100, 5010, 5)
	all(t, v, 2020, of(100, 5010, 5))
	add(t, v, 2020, of(100, 5010, -5), api.OK)
	if n := len(v.Scan(nil)); n != len(others) {
		t.Errorf("%d pairs, not %d", n, len(others))
	}
}

// P25.1, P25.2: many balances, held against sums that are made without a view.
func TestMany(t *testing.T) {
	v := view.New(nil)
	sums := map[[3]int]int{}
	for i := range 4000 {
		year, l := 2000+i*7%3, of(100+i*31%20*300, 1000+i*53%9, i*i%11-5)
		sums[[3]int{year, l.Fund, l.Object}] += l.Amount
		add(t, v, year, l, api.OK)
	}
	for year := 1999; year < 2004; year++ {
		var want []api.Line
		for fund := 100; fund < 6100; fund += 300 {
			for object := 1000; object < 1010; object++ {
				n := sums[[3]int{year, fund, object}]
				get(t, v, year, fund, object, n)
				if n != 0 {
					want = append(want, of(fund, object, n))
				}
			}
		}
		for range 2 {
			all(t, v, year, want...)
		}
	}
	for key, n := range sums {
		add(t, v, key[0], of(key[1], key[2], -n), api.OK)
	}
	has(t, v)
}

// P25.1: the view is changed, and nothing below it till its Commit.
func TestOnDisk(t *testing.T) {
	d, _ := disk.New(81)
	k, err := kv.Format(d)
	if err != api.OK {
		t.Fatalf("Format: %d", err)
	}
	v := view.New(k)
	add(t, v, 2020, of(100, 5010, 5), api.OK)
	add(t, v, 2020, of(100, 1010, -5), api.OK)
	has(t, view.New(k))
	if err := v.Commit(); err != api.OK {
		t.Fatalf("Commit: %d", err)
	}
	all(t, view.New(k), 2020, of(100, 1010, -5), of(100, 5010, 5))
	add(t, v, 2020, of(100, 5010, -5), api.OK)
	add(t, v, 2020, of(200, 1010, 5), api.OK)
	all(t, v, 2020, of(100, 1010, -5), of(200, 1010, 5))
	v.Abort()
	all(t, v, 2020, of(100, 1010, -5), of(100, 5010, 5))
	add(t, v, 2020, of(100, 5010, -5), api.OK)
	if err := v.Commit(); err != api.OK {
		t.Fatalf("Commit: %d", err)
	}
	has(t, view.New(k), pair(2020, 100, 1010, -5))

	// Of a view whose store met an error nothing is told.
	d.Arm(0)
	d.Write(0, make([]byte, api.Sector))
	get(t, v, 2020, 100, 1010, 0)
	all(t, v, 2020)
	if err := v.Err(); err != api.ErrDown {
		t.Errorf("Err: %d", err)
	}
}

// P25.1, R5: of a view that no call made there is no balance.
func TestNoView(t *testing.T) {
	for _, v := range []*view.View{nil, {}} {
		get(t, v, 2020, 100, 5010, 0)
		all(t, v, 2020)
		all(t, v, -1)
		add(t, v, 2020, of(100, 5010, 5), api.ErrNil)
		add(t, v, 2020, of(100, 5010, most+1), api.ErrRange)
		add(t, v, 2020, of(100, 5010, 0), api.OK)
		get(t, v, 2020, 100, 5010, 0)
	}
}

// R3: what is answered may be changed.
func TestNothingShared(t *testing.T) {
	v := view.New(nil)
	add(t, v, 2020, of(100, 5010, 5), api.OK)
	add(t, v, 2020, of(100, 1010, -5), api.OK)
	for range 2 {
		got := All(v, 2020)
		clear(got[:cap(got)])
		all(t, v, 2020, of(100, 1010, -5), of(100, 5010, 5))
	}
}
