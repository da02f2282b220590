package seqn

import (
	"bytes"
	"encoding/binary"
	"math"
	"testing"

	"exchequer/api"
	"exchequer/disk"
	"exchequer/kv"
	"exchequer/view"
)

const top = 1<<32 - 1

// keyOf is a counter's key, reworked by the library.
func keyOf(which uint32) []byte {
	return binary.BigEndian.AppendUint32([]byte{'S'}, which)
}

// valueOf is a counter's value, reworked by the library.
func valueOf(nums ...int) []byte {
	var value []byte
	for _, n := range nums {
		value = binary.BigEndian.AppendUint64(value, uint64(n))
	}
	return value
}

// stand lets a value stand at a counter's key.
func stand(t *testing.T, v *view.View, which uint32, value []byte) {
	t.Helper()
	if err := v.Put(keyOf(which), value); err != api.OK {
		t.Fatalf("Put: %d", err)
	}
}

func next(t *testing.T, v *view.View, which, want int, wantErr api.Errno) {
	t.Helper()
	if n, err := Next(v, which); n != want || err != wantErr {
		t.Errorf("Next of %d: %d, %d, not %d, %d", which, n, err, want, wantErr)
	}
}

func last(t *testing.T, v *view.View, which, want int) {
	t.Helper()
	if n := Last(v, which); n != want {
		t.Errorf("Last of %d: %d, not %d", which, n, want)
	}
}

// has looks that just these pairs stand in a view.
func has(t *testing.T, v *view.View, want ...api.Pair) {
	t.Helper()
	got := v.Scan(nil)
	same := len(got) == len(want)
	for i := 0; same && i < len(want); i++ {
		same = bytes.Equal(got[i].Key, want[i].Key) && bytes.Equal(got[i].Value, want[i].Value)
	}
	if !same {
		t.Errorf("there stand %v, not %v", got, want)
	}
}

// P20.1, P20.2
func TestRising(t *testing.T) {
	v := view.New(nil)
	last(t, v, 1, 0)
	has(t, v)
	for n := 1; n <= 300; n++ {
		next(t, v, 1, n, api.OK)
		last(t, v, 1, n)
		has(t, v, api.Pair{Key: keyOf(1), Value: valueOf(n)})
	}
}

// P20.1: each counter has numbers of its own.
func TestEachItsOwn(t *testing.T) {
	v := view.New(nil)
	next(t, v, 2, 1, api.OK)
	next(t, v, 2, 2, api.OK)
	next(t, v, 1, 1, api.OK)
	next(t, v, 2, 3, api.OK)
	last(t, v, 0, 0)
	last(t, v, 1, 1)
	last(t, v, 2, 3)
	has(t, v, api.Pair{Key: keyOf(1), Value: valueOf(1)}, api.Pair{Key: keyOf(2), Value: valueOf(3)})
}

// P20.1: which is held as a key's number.
func TestWhich(t *testing.T) {
	for _, c := range []struct {
		which int
		key   uint32
	}{{math.MinInt, 0}, {-1, 0}, {0, 0}, {1, 1}, {256, 256}, {top, top}, {top + 1, top}, {math.MaxInt, top}} {
		v := view.New(nil)
		stand(t, v, c.key, valueOf(41))
		last(t, v, c.which, 41)
		next(t, v, c.which, 42, api.OK)
		has(t, v, api.Pair{Key: keyOf(c.key), Value: valueOf(42)})
	}
}

// P20.1
func TestRange(t *testing.T) {
	for _, c := range []struct {
		last int
		err  api.Errno
	}{
		{math.MinInt, api.ErrRange}, {-1 << 32, api.ErrRange}, {-2, api.ErrRange}, {-1, api.ErrRange},
		{0, api.OK}, {1, api.OK}, {255, api.OK}, {1 << 31, api.OK}, {top - 2, api.OK}, {top - 1, api.OK},
		{top, api.ErrRange}, {top + 1, api.ErrRange}, {1 << 33, api.ErrRange}, {math.MaxInt, api.ErrRange},
	} {
		v := view.New(nil)
		stand(t, v, 1, valueOf(c.last))
		last(t, v, 1, c.last)
		if c.err != api.OK {
			next(t, v, 1, 0, c.err)
			next(t, v, 1, 0, c.err)
			last(t, v, 1, c.last)
			has(t, v, api.Pair{Key: keyOf(1), Value: valueOf(c.last)})
			continue
		}
		next(t, v, 1, c.last+1, api.OK)
		last(t, v, 1, c.last+1)
		has(t, v, api.Pair{Key: keyOf(1), Value: valueOf(c.last + 1)})
	}
	v := view.New(nil)
	stand(t, v, 1, valueOf(top-1))
	next(t, v, 1, top, api.OK)
	next(t, v, 1, 0, api.ErrRange)
	last(t, v, 1, top)
}

// P20.1: what isn't one number is none.
func TestOneNumber(t *testing.T) {
	for size := range 40 {
		v := view.New(nil)
		value := bytes.Repeat([]byte{1}, size)
		stand(t, v, 1, value)
		if size == 8 {
			last(t, v, 1, 0x0101010101010101)
			continue
		}
		last(t, v, 1, 0)
		has(t, v, api.Pair{Key: keyOf(1), Value: value})
		next(t, v, 1, 1, api.OK)
		has(t, v, api.Pair{Key: keyOf(1), Value: valueOf(1)})
	}
}

// P20.1: other keys are no counter's.
func TestOtherKeys(t *testing.T) {
	v := view.New(nil)
	for _, key := range [][]byte{{'S'}, {'S', 0, 0, 0}, append(keyOf(1), 0), append([]byte{'T'}, keyOf(1)[1:]...), append([]byte{'s'}, keyOf(1)[1:]...)} {
		if err := v.Put(key, valueOf(7)); err != api.OK {
			t.Fatalf("Put: %d", err)
		}
	}
	last(t, v, 1, 0)
	next(t, v, 1, 1, api.OK)
	if n := len(v.Scan(nil)); n != 6 {
		t.Errorf("%d pairs", n)
	}
}

// P20.1: the view is changed, and nothing below it till its Commit.
func TestOnDisk(t *testing.T) {
	d, _ := disk.New(81)
	k, err := kv.Format(d)
	if err != api.OK {
		t.Fatalf("Format: %d", err)
	}
	v := view.New(k)
	next(t, v, 1, 1, api.OK)
	last(t, view.New(k), 1, 0)
	if err := v.Commit(); err != api.OK {
		t.Fatalf("Commit: %d", err)
	}
	last(t, view.New(k), 1, 1)
	next(t, v, 1, 2, api.OK)
	next(t, v, 1, 3, api.OK)
	v.Abort()
	last(t, v, 1, 1)
	next(t, v, 1, 2, api.OK)
}

// P20.1: of a view that no call made layer 14's ErrNil.
func TestNoView(t *testing.T) {
	for _, v := range []*view.View{nil, {}} {
		last(t, v, 1, 0)
		next(t, v, 1, 0, api.ErrNil)
		last(t, v, 1, 0)
		next(t, v, -1, 0, api.ErrNil)
	}
}
