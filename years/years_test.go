package years

import (
	"bytes"
	"encoding/binary"
	"math"
	"slices"
	"testing"

	"exchequer/api"
	"exchequer/disk"
	"exchequer/kv"
	"exchequer/view"
)

// wrong are years that may not be; some are right modulo a power of two, or but for their sign.
var wrong = []int{math.MinInt, math.MinInt + 2020, -1 << 32, -2020, -1, 0, 1, 20, 99, 1999, 2100, 20200, 1<<16 + 2020, 1<<32 + 2020, math.MaxInt}

// keyOf is a year's key, reworked by the library.
func keyOf(year uint32) []byte {
	return binary.BigEndian.AppendUint32([]byte{'Y'}, year)
}

// valueOf is numbers as a value, reworked by the library.
func valueOf(nums ...int) []byte {
	var value []byte
	for _, n := range nums {
		value = binary.BigEndian.AppendUint64(value, uint64(n))
	}
	return value
}

// pair is what stands of a year.
func pair(year uint32, state int) api.Pair {
	return api.Pair{Key: keyOf(year), Value: valueOf(state)}
}

// stand lets a value stand at a key.
func stand(t *testing.T, v *view.View, key, value []byte) {
	t.Helper()
	if err := v.Put(key, value); err != api.OK {
		t.Fatalf("Put: %d", err)
	}
}

// has looks that just these pairs stand in a view.
func has(t *testing.T, v *view.View, want ...api.Pair) {
	t.Helper()
	got := v.Scan(nil)
	same := len(got) == len(want)
	for i := 0; same && i < len(want); i++ {
		same = bytes.Equal(got[i].Key, want[i].Key) && bytes.Equal(got[i].Value, want[i].Value)
	}
	if !same {
		t.Errorf("there stand %v, not %v", got, want)
	}
}

func open(t *testing.T, v *view.View, year int, want api.Errno) {
	t.Helper()
	if err := Open(v, year); err != want {
		t.Errorf("Open(%d): %d, not %d", year, err, want)
	}
}

func shut(t *testing.T, v *view.View, year int, want api.Errno) {
	t.Helper()
	if err := Shut(v, year); err != want {
		t.Errorf("Shut(%d): %d, not %d", year, err, want)
	}
}

// is looks for a year's state, also as Check tells it.
func is(t *testing.T, v *view.View, year, want int) {
	t.Helper()
	if got := State(v, year); got != want {
		t.Errorf("State(%d): %d, not %d", year, got, want)
	}
	check := [...]api.Errno{api.YearNone: api.ErrNone, api.YearOpen: api.OK, api.YearClosed: api.ErrClosed}[want]
	if err := Check(v, year); err != check {
		t.Errorf("Check(%d): %d, not %d", year, err, check)
	}
}

func all(t *testing.T, v *view.View, want ...int) {
	t.Helper()
	if got := All(v); !slices.Equal(got, want) {
		t.Errorf("All: %v, not %v", got, want)
	}
}

// P22.1
func TestRight(t *testing.T) {
	for year := -3000; year <= 70000; year++ {
		if got := Right(year); got != (year >= 2000 && year <= 2099) {
			t.Errorf("Right(%d): %v", year, got)
		}
	}
	for _, year := range wrong {
		if Right(year) {
			t.Errorf("Right(%d)", year)
		}
	}
}

// P22.1, P22.2: each year's life, in a view with all of them.
func TestLife(t *testing.T) {
	v := view.New(nil)
	all(t, v)
	var want []int
	for year := 2099; year >= 2000; year-- {
		is(t, v, year, api.YearNone)
		shut(t, v, year, api.ErrNone)
		is(t, v, year, api.YearNone)
		open(t, v, year, api.OK)
		is(t, v, year, api.YearOpen)
		open(t, v, year, api.ErrTwice)
		is(t, v, year, api.YearOpen)
		want = slices.Insert(want, 0, year)
		all(t, v, want...)
	}
	for year := 2000; year <= 2099; year++ {
		is(t, v, year, api.YearOpen)
		shut(t, v, year, api.OK)
		for range 2 {
			is(t, v, year, api.YearClosed)
			shut(t, v, year, api.ErrClosed)
			open(t, v, year, api.ErrTwice)
		}
	}
	all(t, v, want...)
}

// P22.1
func TestWhatStands(t *testing.T) {
	v := view.New(nil)
	open(t, v, 2020, api.OK)
	has(t, v, pair(2020, 1))
	open(t, v, 2000, api.OK)
	open(t, v, 2099, api.OK)
	shut(t, v, 2020, api.OK)
	has(t, v, pair(2000, 1), pair(2020, 2), pair(2099, 1))
	all(t, v, 2000, 2020, 2099)
	is(t, v, 2021, api.YearNone)
	is(t, v, 2019, api.YearNone)
}

// P22.1: what may not be is refused, and changes nothing.
func TestWrong(t *testing.T) {
	v := view.New(nil)
	for _, year := range wrong {
		open(t, v, year, api.ErrArg)
		shut(t, v, year, api.ErrNone)
		is(t, v, year, api.YearNone)
	}
	has(t, v)
	all(t, v)
}

// P22.1: just two values are a year's state.
func TestOtherValues(t *testing.T) {
	values := [][]byte{
		nil, {1}, {2}, {0, 0, 0, 1}, valueOf(0), valueOf(3), valueOf(-1), valueOf(-2), valueOf(1 << 56), valueOf(1<<32 + 1), valueOf(257), valueOf(math.MinInt + 1),
		valueOf(math.MaxInt), valueOf(1, 1), valueOf(1, 0), valueOf(0, 1), valueOf(2, 2), valueOf(1)[:7], valueOf(1)[1:], append(valueOf(1), 0), append([]byte{0}, valueOf(2)...),
		bytes.Repeat([]byte{1}, 120),
	}
	for _, value := range values {
		v := view.New(nil)
		stand(t, v, keyOf(2020), value)
		is(t, v, 2020, api.YearNone)
		all(t, v)
		shut(t, v, 2020, api.ErrNone)
		has(t, v, api.Pair{Key: keyOf(2020), Value: value})
		open(t, v, 2020, api.OK)
		has(t, v, pair(2020, 1))
		all(t, v, 2020)
	}
	v := view.New(nil)
	stand(t, v, keyOf(2020), valueOf(2))
	stand(t, v, keyOf(2010), valueOf(1))
	is(t, v, 2020, api.YearClosed)
	is(t, v, 2010, api.YearOpen)
	all(t, v, 2010, 2020)
	open(t, v, 2020, api.ErrTwice)
	open(t, v, 2010, api.ErrTwice)
}

// P22.1: other keys are no year's.
func TestOtherKeys(t *testing.T) {
	v := view.New(nil)
	for _, key := range [][]byte{{'Y'}, {'Y', 0, 0, 7}, append(keyOf(2020), 0), append(keyOf(2020), 0, 0, 0, 0), append([]byte{'X'}, keyOf(2020)[1:]...), append([]byte{'Z'}, keyOf(2020)[1:]...), append([]byte{'y'}, keyOf(2020)[1:]...)} {
		stand(t, v, key, valueOf(1))
	}
	is(t, v, 2020, api.YearNone)
	all(t, v)
	open(t, v, 2020, api.OK)
	all(t, v, 2020)
}

// P22.1: the view is changed, and nothing below it till its Commit.
func TestOnDisk(t *testing.T) {
	d, _ := disk.New(81)
	k, err := kv.Format(d)
	if err != api.OK {
		t.Fatalf("Format: %d", err)
	}
	v := view.New(k)
	open(t, v, 2020, api.OK)
	has(t, view.New(k))
	if err := v.Commit(); err != api.OK {
		t.Fatalf("Commit: %d", err)
	}
	is(t, view.New(k), 2020, api.YearOpen)
	shut(t, v, 2020, api.OK)
	open(t, v, 2021, api.OK)
	all(t, v, 2020, 2021)
	v.Abort()
	is(t, v, 2020, api.YearOpen)
	is(t, v, 2021, api.YearNone)
	all(t, v, 2020)
	shut(t, v, 2020, api.OK)
	if err := v.Commit(); err != api.OK {
		t.Fatalf("Commit: %d", err)
	}
	is(t, view.New(k), 2020, api.YearClosed)

	// Of a view whose store met an error nothing is told.
	d.Arm(0)
	d.Write(0, make([]byte, api.Sector))
	is(t, v, 2020, api.YearNone)
	shut(t, v, 2020, api.ErrNone)
	all(t, v)
	if err := v.Err(); err != api.ErrDown {
		t.Errorf("Err: %d", err)
	}
}

// P22.1, R5: of a view that no call made there is no year.
func TestNoView(t *testing.T) {
	for _, v := range []*view.View{nil, {}} {
		open(t, v, 2020, api.ErrNil)
		open(t, v, 1999, api.ErrArg)
		shut(t, v, 2020, api.ErrNone)
		is(t, v, 2020, api.YearNone)
		all(t, v)
	}
}

// R3: what is answered may be changed.
func TestNothingShared(t *testing.T) {
	v := view.New(nil)
	open(t, v, 2020, api.OK)
	open(t, v, 2021, api.OK)
	for range 2 {
		got := All(v)
		clear(got[:cap(got)])
		all(t, v, 2020, 2021)
	}
}
