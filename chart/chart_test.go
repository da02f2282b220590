package chart

import (
	"bytes"
	"encoding/binary"
	"math"
	"slices"
	"strings"
	"testing"

	"exchequer/api"
	"exchequer/disk"
	"exchequer/kv"
	"exchequer/view"
)

// wrongFunds and wrongObjects are what may not be; some are right modulo a power of two, or but for their sign.
var (
	wrongFunds   = []int{math.MinInt, math.MinInt + 100, -1 << 32, -999, -100, -1, 0, 1, 99, 1000, 5010, 1<<16 + 100, 1<<32 + 100, math.MaxInt}
	wrongObjects = []int{math.MinInt, math.MinInt + 1010, -1 << 32, -5999, -1010, -1, 0, 1, 100, 999, 6000, 9999, 1<<16 + 1010, 1<<32 + 1010, math.MaxInt}
	wrongNames   = []string{"", strings.Repeat("x", 21), strings.Repeat("x", 1000), "\x1f", "\x7f", "a\nb", "\x00", "a\x00", "\xff", "\x80b", "Stra\u00dfe", "\u00a0"}
	fixed        = []int{1010, 1900, 2900, 3000}
)

// keyOf is a key with one number, reworked by the library.
func keyOf(tag byte, n uint32) []byte {
	return binary.BigEndian.AppendUint32([]byte{tag}, n)
}

// stand lets a value stand at a key.
func stand(t *testing.T, v *view.View, key []byte, value string) {
	t.Helper()
	if err := v.Put(key, []byte(value)); err != api.OK {
		t.Fatalf("Put: %d", err)
	}
}

// pair is a key with one number, and its value.
func pair(tag byte, n uint32, value string) api.Pair {
	return api.Pair{Key: keyOf(tag, n), Value: []byte(value)}
}

// has looks that just these pairs stand in a view.
func has(t *testing.T, v *view.View, want ...api.Pair) {
	t.Helper()
	got := v.Scan(nil)
	same := len(got) == len(want)
	for i := 0; same && i < len(want); i++ {
		same = bytes.Equal(got[i].Key, want[i].Key) && bytes.Equal(got[i].Value, want[i].Value)
	}
	if !same {
		t.Errorf("there stand %v, not %v", got, want)
	}
}

func newFund(t *testing.T, v *view.View, fund int, name string, want api.Errno) {
	t.Helper()
	if err := NewFund(v, fund, name); err != want {
		t.Errorf("NewFund(%d, %q): %d, not %d", fund, name, err, want)
	}
}

func newObject(t *testing.T, v *view.View, object int, want api.Errno) {
	t.Helper()
	if err := NewObject(v, object); err != want {
		t.Errorf("NewObject(%d): %d, not %d", object, err, want)
	}
}

// isFund looks for a fund with a name; without any there is to be no such fund.
func isFund(t *testing.T, v *view.View, fund int, name string) {
	t.Helper()
	if got, ok := Fund(v, fund); got != name || ok != (name != "") {
		t.Errorf("Fund(%d): %q, %v, not %q", fund, got, ok, name)
	}
}

func isObject(t *testing.T, v *view.View, object int, want bool) {
	t.Helper()
	if got := Object(v, object); got != want {
		t.Errorf("Object(%d): %v", object, got)
	}
}

func funds(t *testing.T, v *view.View, want ...int) {
	t.Helper()
	if got := Funds(v); !slices.Equal(got, want) {
		t.Errorf("Funds: %v, not %v", got, want)
	}
}

func objects(t *testing.T, v *view.View, want ...int) {
	t.Helper()
	if got := Objects(v); !slices.Equal(got, want) {
		t.Errorf("Objects: %v, not %v", got, want)
	}
}

// P21.1
func TestName(t *testing.T) {
	for size := range 300 {
		if got := Name(strings.Repeat("a", size)); got != (size >= 1 && size <= 20) {
			t.Errorf("Name of %d bytes: %v", size, got)
		}
	}
	for sign := range 256 {
		may := sign >= 32 && sign <= 126
		s := string([]byte{byte(sign)})
		for _, name := range []string{s, s + "bc", "a" + s + "c", "ab" + s, strings.Repeat(s, 20), strings.Repeat("a", 19) + s} {
			if Name(name) != may {
				t.Errorf("Name(%q): %v", name, !may)
			}
		}
		if Name(strings.Repeat(s, 21)) {
			t.Errorf("Name of 21 times %q", s)
		}
	}
	// Bytes count, not signs of an alphabet.
	for _, name := range wrongNames {
		if Name(name) {
			t.Errorf("Name(%q)", name)
		}
	}
}

// P21.1
func TestFunds(t *testing.T) {
	v := view.New(nil)
	funds(t, v)
	isFund(t, v, 100, "")
	newFund(t, v, 500, "Roads", api.OK)
	newFund(t, v, 999, " ", api.OK)
	newFund(t, v, 100, "General", api.OK)
	newFund(t, v, 256, "~ of twenty signs ~~", api.OK)
	newFund(t, v, 255, "Roads", api.OK)
	funds(t, v, 100, 255, 256, 500, 999)
	isFund(t, v, 100, "General")
	isFund(t, v, 500, "Roads")
	isFund(t, v, 255, "Roads")
	isFund(t, v, 256, "~ of twenty signs ~~")
	isFund(t, v, 999, " ")
	isFund(t, v, 101, "")
	for _, fund := range wrongFunds {
		isFund(t, v, fund, "")
	}
	has(t, v, pair('F', 100, "General"), pair('F', 255, "Roads"), pair('F', 256, "~ of twenty signs ~~"), pair('F', 500, "Roads"), pair('F', 999, " "))
}

// P21.1: each fund that may be, in a view of its own.
func TestEachFund(t *testing.T) {
	for fund := 100; fund <= 999; fund++ {
		v := view.New(nil)
		newFund(t, v, fund, "x", api.OK)
		funds(t, v, fund)
		isFund(t, v, fund, "x")
		newFund(t, v, fund, "y", api.ErrTwice)
		has(t, v, pair('F', uint32(fund), "x"))
	}
}

// P21.1: what may not be is refused ahead of all else, and changes nothing.
func TestWrongFunds(t *testing.T) {
	v := view.New(nil)
	newFund(t, v, 100, "x", api.OK)
	for _, fund := range wrongFunds {
		newFund(t, v, fund, "x", api.ErrArg)
		newFund(t, v, fund, "", api.ErrArg)
	}
	for _, name := range wrongNames {
		newFund(t, v, 101, name, api.ErrArg)
		newFund(t, v, 100, name, api.ErrArg)
	}
	has(t, v, pair('F', 100, "x"))
}

// P21.1, P21.3
func TestFundTwice(t *testing.T) {
	v := view.New(nil)
	newFund(t, v, 100, "x", api.OK)
	newFund(t, v, 100, "x", api.ErrTwice)
	newFund(t, v, 100, "y", api.ErrTwice)
	newFund(t, v, 200, "x", api.OK)
	funds(t, v, 100, 200)
	has(t, v, pair('F', 100, "x"), pair('F', 200, "x"))
}

// P21.1: MaxFunds are all there may be; ErrArg and ErrTwice come ahead of that.
func TestMostFunds(t *testing.T) {
	v := view.New(nil)
	var want []int
	for i := range 40 {
		newFund(t, v, 990-i, "x", api.OK)
		want = slices.Insert(want, 0, 990-i)
	}
	funds(t, v, want...)
	for range 2 {
		newFund(t, v, 100, "x", api.ErrLimit)
		newFund(t, v, 991, "x", api.ErrLimit)
		newFund(t, v, 990, "x", api.ErrTwice)
		newFund(t, v, 99, "x", api.ErrArg)
		newFund(t, v, 100, "", api.ErrArg)
	}
	funds(t, v, want...)
	isFund(t, v, 100, "")
	// Objects count for themselves.
	newObject(t, v, 5010, api.OK)
	// One that goes makes room for one more.
	if !v.Delete(keyOf('F', 970)) {
		t.Error("fund 970 did not stand at its key")
	}
	newFund(t, v, 100, "x", api.OK)
	newFund(t, v, 970, "x", api.ErrLimit)
	want = slices.Insert(slices.DeleteFunc(want, func(n int) bool { return n == 970 }), 0, 100)
	funds(t, v, want...)
}

// P21.1: what another hand let stand; other keys are no fund's.
func TestFundsOfOthers(t *testing.T) {
	v := view.New(nil)
	for _, key := range [][]byte{{'F'}, {'F', 0}, {'F', 0, 0, 0}, append(keyOf('F', 100), 0), append(keyOf('F', 100), 0, 0, 0, 0), keyOf('f', 100), keyOf('E', 100), keyOf('G', 100), keyOf('O', 100)} {
		stand(t, v, key, "x")
	}
	funds(t, v)
	isFund(t, v, 100, "")
	stand(t, v, keyOf('F', 300), "three")
	stand(t, v, keyOf('F', 200), "two\xff")
	funds(t, v, 200, 300)
	isFund(t, v, 300, "three")
	isFund(t, v, 200, "two\xff")
	newFund(t, v, 300, "x", api.ErrTwice)
	newFund(t, v, 100, "x", api.OK)
	funds(t, v, 100, 200, 300)
	stand(t, v, keyOf('F', 200), "")
	if name, ok := Fund(v, 200); name != "" || !ok {
		t.Errorf("Fund of no bytes: %q, %v", name, ok)
	}
	newFund(t, v, 200, "x", api.ErrTwice)
	funds(t, v, 100, 200, 300)
}

// P21.2
func TestObjects(t *testing.T) {
	v := view.New(nil)
	objects(t, v, fixed...)
	isObject(t, v, 5010, false)
	newObject(t, v, 5010, api.OK)
	newObject(t, v, 5999, api.OK)
	newObject(t, v, 1000, api.OK)
	newObject(t, v, 2000, api.OK)
	newObject(t, v, 2304, api.OK)
	objects(t, v, 1000, 1010, 1900, 2000, 2304, 2900, 3000, 5010, 5999)
	for _, object := range Objects(v) {
		isObject(t, v, object, true)
		newObject(t, v, object, api.ErrTwice)
	}
	isObject(t, v, 5011, false)
	isObject(t, v, 1001, false)
	for _, object := range wrongObjects {
		isObject(t, v, object, false)
	}
	has(t, v, pair('O', 1000, ""), pair('O', 2000, ""), pair('O', 2304, ""), pair('O', 5010, ""), pair('O', 5999, ""))
}

// P21.2: each object that may be, in a view of its own; four are there already.
func TestEachObject(t *testing.T) {
	for object := 1000; object <= 5999; object++ {
		v := view.New(nil)
		if slices.Contains(fixed, object) {
			isObject(t, v, object, true)
			newObject(t, v, object, api.ErrTwice)
			objects(t, v, fixed...)
			has(t, v)
			continue
		}
		isObject(t, v, object, false)
		newObject(t, v, object, api.OK)
		isObject(t, v, object, true)
		newObject(t, v, object, api.ErrTwice)
		want := append([]int{object}, fixed...)
		slices.Sort(want)
		objects(t, v, want...)
		has(t, v, pair('O', uint32(object), ""))
	}
}

// P21.2: what may not be is refused, and changes nothing.
func TestWrongObjects(t *testing.T) {
	v := view.New(nil)
	for _, object := range wrongObjects {
		newObject(t, v, object, api.ErrArg)
	}
	has(t, v)
	objects(t, v, fixed...)
}

// P21.2: MaxObjects are all there may be beside the fixed ones; ErrArg and ErrTwice come ahead of that.
func TestMostObjects(t *testing.T) {
	v := view.New(nil)
	want := slices.Clone(fixed)
	for i := range 60 {
		newObject(t, v, 5100-i, api.OK)
		want = append(want, 5100-i)
	}
	slices.Sort(want)
	objects(t, v, want...)
	for range 2 {
		newObject(t, v, 1000, api.ErrLimit)
		newObject(t, v, 5999, api.ErrLimit)
		newObject(t, v, 5100, api.ErrTwice)
		newObject(t, v, 1010, api.ErrTwice)
		newObject(t, v, 999, api.ErrArg)
	}
	objects(t, v, want...)
	newFund(t, v, 100, "x", api.OK)
	if !v.Delete(keyOf('O', 5070)) {
		t.Error("object 5070 did not stand at its key")
	}
	isObject(t, v, 5070, false)
	newObject(t, v, 1000, api.OK)
	newObject(t, v, 5070, api.ErrLimit)
}

// P21.2: what another hand let stand: fixed ones are told once, and don't count.
func TestObjectsOfOthers(t *testing.T) {
	v := view.New(nil)
	for _, key := range [][]byte{{'O'}, {'O', 0, 0, 0}, append(keyOf('O', 5010), 0), append(keyOf('O', 5010), 0, 0, 0, 0), keyOf('o', 5010), keyOf('N', 5010), keyOf('P', 5010), keyOf('F', 5010)} {
		stand(t, v, key, "")
	}
	isObject(t, v, 5010, false)
	objects(t, v, fixed...)
	for _, n := range []uint32{0, 999, 6000, math.MaxUint32, 1010, 1900, 2900, 3000, 5999, 1000} {
		stand(t, v, keyOf('O', n), "")
	}
	objects(t, v, 1000, 1010, 1900, 2900, 3000, 5999)
	for i := range 58 {
		newObject(t, v, 4000+i, api.OK)
	}
	newObject(t, v, 4100, api.ErrLimit)
	if got := len(Objects(v)); got != 64 {
		t.Errorf("%d objects", got)
	}
}

// P21.1, P21.2: the view is changed, and nothing below it till its Commit.
func TestOnDisk(t *testing.T) {
	d, _ := disk.New(81)
	k, err := kv.Format(d)
	if err != api.OK {
		t.Fatalf("Format: %d", err)
	}
	v := view.New(k)
	newFund(t, v, 100, "x", api.OK)
	newObject(t, v, 5010, api.OK)
	has(t, view.New(k))
	if err := v.Commit(); err != api.OK {
		t.Fatalf("Commit: %d", err)
	}
	newFund(t, v, 200, "y", api.OK)
	newObject(t, v, 5020, api.OK)
	funds(t, v, 100, 200)
	objects(t, v, 1010, 1900, 2900, 3000, 5010, 5020)
	v.Abort()
	for _, v := range []*view.View{v, view.New(k)} {
		funds(t, v, 100)
		objects(t, v, 1010, 1900, 2900, 3000, 5010)
		isFund(t, v, 100, "x")
		isFund(t, v, 200, "")
		newFund(t, v, 100, "y", api.ErrTwice)
		newObject(t, v, 5010, api.ErrTwice)
	}
}

// P21.1, P21.2, R5: of a view that no call made nothing is told but what is always there.
func TestNoView(t *testing.T) {
	for _, v := range []*view.View{nil, {}} {
		newFund(t, v, 100, "x", api.ErrNil)
		newFund(t, v, 99, "x", api.ErrArg)
		newFund(t, v, 100, "", api.ErrArg)
		newObject(t, v, 5010, api.ErrNil)
		newObject(t, v, 999, api.ErrArg)
		newObject(t, v, 1010, api.ErrTwice)
		isFund(t, v, 100, "")
		isObject(t, v, 5010, false)
		isObject(t, v, 1010, true)
		funds(t, v)
		objects(t, v, fixed...)
	}
}

// P21.1, P21.2: of a view whose store met an error nothing is told either.
func TestDown(t *testing.T) {
	d, _ := disk.New(81)
	k, err := kv.Format(d)
	if err != api.OK {
		t.Fatalf("Format: %d", err)
	}
	v := view.New(k)
	newFund(t, v, 100, "x", api.OK)
	newObject(t, v, 5010, api.OK)
	if err := v.Commit(); err != api.OK {
		t.Fatalf("Commit: %d", err)
	}
	d.Arm(0)
	d.Write(0, make([]byte, api.Sector))
	isFund(t, v, 100, "")
	isObject(t, v, 5010, false)
	isObject(t, v, 3000, true)
	funds(t, v)
	objects(t, v, fixed...)
	if err := v.Err(); err != api.ErrDown {
		t.Errorf("Err: %d", err)
	}
}

// R3: what is answered may be changed.
func TestNothingShared(t *testing.T) {
	v := view.New(nil)
	newFund(t, v, 100, "x", api.OK)
	newFund(t, v, 200, "y", api.OK)
	newObject(t, v, 5010, api.OK)
	for range 2 {
		for _, l := range [][]int{Funds(v), Objects(v)} {
			clear(l[:cap(l)])
		}
		funds(t, v, 100, 200)
		objects(t, v, 1010, 1900, 2900, 3000, 5010)
	}
}
