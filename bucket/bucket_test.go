package bucket

import (
	"bytes"
	"math"
	"slices"
	"strconv"
	"testing"

	"exchequer/api"
)

const most = 1<<32 - 1 // what 4 bytes take

// pair answers a pair of two texts.
func pair(key, value string) api.Pair {
	return api.Pair{Key: []byte(key), Value: []byte(value)}
}

// sized answers a pair whose key and value have so many bytes each; mark is what its key ends with.
func sized(mark byte, key, value int) api.Pair {
	p := api.Pair{Key: bytes.Repeat([]byte{'k'}, key), Value: bytes.Repeat([]byte{'v'}, value)}
	if key > 0 {
		p.Key[key-1] = mark
	}
	return p
}

// singles answers n pairs of three bytes each: a key of one byte, no value.
func singles(n int) []api.Pair {
	var ps []api.Pair
	for i := range n {
		ps = append(ps, sized(byte(i), 1, 0))
	}
	return ps
}

func with(pairs ...api.Pair) api.Bucket {
	return api.Bucket{Pairs: pairs}
}

// plain answers a bucket whose parts are all unlike.
func plain() api.Bucket {
	return api.Bucket{Depth: 7, Next: 0x01020304, Pairs: []api.Pair{
		pair("one", "first"), pair("a", ""), pair("b\x00", "\x00\xff"),
	}}
}

// changed answers plain with a change.
func changed(change func(b *api.Bucket)) api.Bucket {
	b := plain()
	change(&b)
	return b
}

func put(t *testing.T, b api.Bucket) []byte {
	t.Helper()
	page, err := Put(b)
	if err != api.OK || len(page) != api.Page {
		t.Fatalf("Put(%v): %d bytes, %d", b, len(page), err)
	}
	return page
}

// like tells whether a and b are the same, asked without Same.
func like(a, b api.Bucket) bool {
	if a.Depth != b.Depth || a.Next != b.Next || len(a.Pairs) != len(b.Pairs) {
		return false
	}
	for i := range a.Pairs {
		if string(a.Pairs[i].Key) != string(b.Pairs[i].Key) || string(a.Pairs[i].Value) != string(b.Pairs[i].Value) {
			return false
		}
	}
	return true
}

// rightBuckets answers buckets at the bounds of what may be.
func rightBuckets() []api.Bucket {
	return []api.Bucket{
		{},
		plain(),
		{Depth: api.MaxDepth, Next: most},
		{Pairs: []api.Pair{}},
		changed(func(b *api.Bucket) { b.Depth = 0 }),
		changed(func(b *api.Bucket) { b.Next = 0 }),
		changed(func(b *api.Bucket) { b.Next = most }),
		changed(func(b *api.Bucket) { slices.Reverse(b.Pairs) }),
		with(sized(1, 32, 120)),
		with(sized(1, 1, 0)),
		with(sized(0, 1, 120)),
		with(api.Pair{Key: []byte{0}, Value: nil}),
		// Of a page's bytes just all, and one less.
		with(sized(1, 32, 120), sized(2, 32, 44)),
		with(sized(1, 32, 120), sized(2, 32, 43)),
		with(sized(1, 1, 120), sized(2, 32, 75)),
		with(singles(77)...),
		with(append(singles(76), sized(99, 2, 0))...),
		// Keys that are others' beginnings, and values that are the same.
		with(pair("a", "v"), pair("ab", "v"), pair("abc", "v"), pair("A", "v"), pair("a\x00", "v")),
		with(pair("k", "k"), pair("kk", "k")),
	}
}

// wrongBuckets answers buckets that may not be, each for one cause.
func wrongBuckets() []api.Bucket {
	wrong := []api.Bucket{
		changed(func(b *api.Bucket) { b.Depth = api.MaxDepth + 1 }),
		changed(func(b *api.Bucket) { b.Depth = 256 }),
		changed(func(b *api.Bucket) { b.Depth = 263 }),
		changed(func(b *api.Bucket) { b.Pairs[0].Key = nil }),
		changed(func(b *api.Bucket) { b.Pairs[1].Key = []byte{} }),
		changed(func(b *api.Bucket) { b.Pairs[2].Key = nil }),
		changed(func(b *api.Bucket) { b.Pairs[1].Key = []byte("one") }),
		changed(func(b *api.Bucket) { b.Pairs[2].Key = []byte("one") }),
		changed(func(b *api.Bucket) { b.Pairs[2].Key = []byte("a") }),
		changed(func(b *api.Bucket) { b.Pairs = append(b.Pairs, b.Pairs[0]) }),
		with(pair("", "")),
		with(sized(1, 33, 0)),
		with(sized(1, 33, 120)),
		with(sized(1, 1, 121)),
		with(sized(1, 32, 121)),
		with(sized(1, 200, 0)),
		with(sized(1, 1, 229)),
		// A byte more than a page has.
		with(sized(1, 32, 120), sized(2, 32, 45)),
		with(append(singles(77), sized(99, 1, 0))...),
		with(append(singles(76), sized(99, 2, 1))...),
		with(sized(1, 256, 0)),
		with(sized(1, 257, 0)),
		with(sized(1, 1, 256)),
		with(sized(1, 1, 257)),
		with(make([]api.Pair, 1<<16)...),
		with(make([]api.Pair, 1<<16+1)...),
	}
	for _, n := range []int{-1, math.MinInt, math.MaxInt, most + 1} {
		wrong = append(wrong,
			changed(func(b *api.Bucket) { b.Depth = n }),
			changed(func(b *api.Bucket) { b.Next = n }),
		)
	}
	return wrong
}

// P10.1: what is counted.
func TestSize(t *testing.T) {
	sizes := []struct {
		b    api.Bucket
		want int
	}{
		{api.Bucket{}, 8},
		{api.Bucket{Pairs: []api.Pair{}}, 8},
		{api.Bucket{Depth: 10, Next: most}, 8},
		{with(pair("", "")), 10},
		{with(pair("abc", "")), 13},
		{with(pair("", "abcd")), 14},
		{with(pair("abc", "abcd")), 17},
		{plain(), 8 + 10 + 3 + 6},
		{with(sized(1, 32, 120), sized(2, 32, 44)), 240},
		{with(singles(77)...), 239},
		{with(sized(1, 1000, 2000)), 3010},
		{with(make([]api.Pair, 5000)...), 10008},
	}
	for _, s := range sizes {
		if got := Size(s.b); got != s.want {
			t.Errorf("%d, not %d", got, s.want)
		}
	}
}

// P10.1: Fits asks for room alone.
func TestFits(t *testing.T) {
	for n := range 400 {
		if got := Fits(with(sized(1, n, 0))); got != (n <= 230) {
			t.Errorf("a key of %d: %v", n, got)
		}
		if got := Fits(with(sized(1, 1, n))); got != (n <= 229) {
			t.Errorf("a value of %d: %v", n, got)
		}
		if got := Fits(with(make([]api.Pair, n)...)); got != (n <= 116) {
			t.Errorf("%d pairs of nothing: %v", n, got)
		}
	}
	if !Fits(api.Bucket{Depth: -1, Next: -1}) || !Fits(with(pair("a", ""), pair("a", ""))) {
		t.Error("what may not be fits too")
	}
}

// P10.1: each number where it is to stand, the highest byte first, noughts behind.
func TestPut(t *testing.T) {
	want := []byte{
		66, 7,
		1, 2, 3, 4,
		0, 3,
		3, 5, 'o', 'n', 'e', 'f', 'i', 'r', 's', 't',
		1, 0, 'a',
		2, 2, 'b', 0, 0, 0xff,
	}
	want = append(want, make([]byte, api.Page-len(want))...)
	if got := put(t, plain()); !bytes.Equal(got, want) {
		t.Errorf("%v, not %v", got, want)
	}
	want = append([]byte{66}, make([]byte, api.Page-1)...)
	if got := put(t, api.Bucket{}); !bytes.Equal(got, want) {
		t.Errorf("of nothing: %v", got)
	}
}

// P10.1: a page that is full to its last byte.
func TestPutFull(t *testing.T) {
	page := put(t, with(sized(1, 32, 120), sized(2, 32, 44)))
	if page[8] != 32 || page[9] != 120 || page[162] != 32 || page[163] != 44 {
		t.Errorf("lengths: %v", page)
	}
	if page[195] != 2 || !bytes.Equal(page[196:], bytes.Repeat([]byte{'v'}, 44)) {
		t.Errorf("the last value: %v", page[195:])
	}
	page = put(t, with(singles(77)...))
	if page[7] != 77 || page[236] != 1 || page[237] != 0 || page[238] != 76 || page[239] != 0 {
		t.Errorf("of 77 pairs: %v", page)
	}
}

// P10.1: what Put takes.
func TestPutRight(t *testing.T) {
	for _, b := range rightBuckets() {
		put(t, b)
	}
	for key := 1; key <= api.MaxKey; key++ {
		for value := range api.MaxValue + 1 {
			b := with(sized(1, key, value))
			if got, err := Parse(put(t, b)); err != api.OK || !like(got, b) {
				t.Errorf("%d, %d: %v, %d", key, value, got, err)
			}
		}
	}
}

// P10.1, R2: what may not be.
func TestPutWrong(t *testing.T) {
	for i, b := range wrongBuckets() {
		if page, err := Put(b); err != api.ErrArg || page != nil {
			t.Errorf("wrong %d: %v, %d", i, page, err)
		}
	}
}

// P10.2
func TestParseOfPut(t *testing.T) {
	for _, b := range rightBuckets() {
		if got, err := Parse(put(t, b)); err != api.OK || !like(got, b) || !Same(got, b) {
			t.Errorf("%v, %d, not %v", got, err, b)
		}
	}
	for depth := range api.MaxDepth + 1 {
		for n := range 78 {
			b := api.Bucket{Depth: depth, Next: n * n * n, Pairs: singles(n)}
			if got, err := Parse(put(t, b)); err != api.OK || !like(got, b) {
				t.Errorf("%v, %d, not %v", got, err, b)
			}
		}
	}
}

// refused looks whether Parse says ErrForm, with a bucket of nothing.
func refused(t *testing.T, what string, data []byte) {
	t.Helper()
	if b, err := Parse(data); err != api.ErrForm || !like(b, api.Bucket{}) || b.Pairs != nil {
		t.Errorf("%s: %v, %d", what, b, err)
	}
}

// P10.1: bytes of another length.
func TestParseLength(t *testing.T) {
	page := put(t, plain())
	refused(t, "nil", nil)
	refused(t, "nothing", []byte{})
	refused(t, "a letter", []byte("B"))
	refused(t, "the head", page[:8])
	refused(t, "what tells something", page[:27])
	refused(t, "a byte less", page[:api.Page-1])
	refused(t, "a byte more", append(slices.Clone(page), 0))
	refused(t, "a sector", append(slices.Clone(page), make([]byte, api.Sector-api.Page)...))
}

// P10.1: whatever byte is another, Parse answers what Put makes these bytes of, or ErrForm.
func TestParseEachByte(t *testing.T) {
	for _, b := range []api.Bucket{{}, plain(), with(sized(1, 32, 120), sized(2, 32, 44)), with(singles(77)...)} {
		page := put(t, b)
		for i := range page {
			for c := 0; c < 256; c += 1 + c/40 {
				data := slices.Clone(page)
				data[i] = byte(c)
				got, err := Parse(data)
				if err == api.OK && bytes.Equal(put(t, got), data) {
					continue
				}
				if err != api.ErrForm || !like(got, api.Bucket{}) {
					t.Errorf("byte %d is %d: %v, %d", i, c, got, err)
				}
			}
		}
	}
}

// P10.1: bytes that stand for nothing else are each as Put lays them.
func TestParseForm(t *testing.T) {
	refused(t, "noughts", make([]byte, api.Page))
	refused(t, "all 255", bytes.Repeat([]byte{255}, api.Page))
	refused(t, "all B", bytes.Repeat([]byte{66}, api.Page))
	for c := range 256 {
		page := put(t, plain())
		page[0] = byte(c)
		if c != 66 {
			refused(t, "letter "+strconv.Itoa(c), page)
		}
		page = put(t, plain())
		page[1] = byte(c)
		if c > api.MaxDepth {
			refused(t, "depth "+strconv.Itoa(c), page)
		} else if b, err := Parse(page); err != api.OK || b.Depth != c {
			t.Errorf("depth %d: %v, %d", c, b, err)
		}
	}
	for i := 27; i < api.Page; i++ {
		page := put(t, plain())
		page[i] = 1
		refused(t, "a byte behind: "+strconv.Itoa(i), page)
	}
}

// P10.1: how many pairs there are is told wrongly.
func TestParseCount(t *testing.T) {
	for n := 0; n < 1<<16; n += 1 + n/300 {
		page := put(t, plain())
		page[6], page[7] = byte(n>>8), byte(n)
		if n != 3 {
			refused(t, strconv.Itoa(n)+" pairs", page)
		}
	}
	page := put(t, with(singles(77)...))
	page[7] = 78
	refused(t, "78 pairs", page)
	page = put(t, api.Bucket{})
	page[7] = 1
	refused(t, "a pair of nothing", page)
}

// raw answers a page with these bytes behind a head that tells of n pairs.
func raw(n int, behind ...byte) []byte {
	page := append([]byte{66, 0, 0, 0, 0, 0, byte(n >> 8), byte(n)}, behind...)
	return append(page, make([]byte, api.Page-len(page))...)
}

// P10.1: pairs that may not be, or go beyond the page.
func TestParsePairs(t *testing.T) {
	refused(t, "no key", raw(1, 0, 0))
	refused(t, "no key, a value", raw(1, 0, 1, 'v'))
	refused(t, "a long key", raw(1, append([]byte{33, 0}, bytes.Repeat([]byte{'k'}, 33)...)...))
	refused(t, "a long value", raw(1, append([]byte{1, 121, 'k'}, bytes.Repeat([]byte{'v'}, 121)...)...))
	refused(t, "a key twice", raw(2, 1, 0, 'k', 1, 0, 'k'))
	refused(t, "a key twice, other values", raw(2, 1, 1, 'k', 'v', 1, 1, 'k', 'w'))
	refused(t, "a key twice, others between", raw(3, 1, 0, 'k', 1, 0, 'j', 1, 0, 'k'))

	whole := with(sized(1, 32, 120), sized(2, 32, 44))
	for _, more := range []byte{45, 46, 120, 121, 255} {
		page := put(t, whole)
		page[163] = more
		refused(t, "a value that goes beyond", page)
	}
	page := put(t, with(sized(1, 32, 120), sized(2, 32, 41)))
	for _, n := range []byte{3, 4, 255} {
		page[7] = n
		refused(t, "pairs that go beyond", page)
	}
	// A key's last byte, and a length, that would stand just behind the page.
	page = put(t, with(sized(1, 32, 120), sized(2, 32, 41)))
	page[7], page[237] = 3, 2
	refused(t, "a key that goes beyond", page)
	page = put(t, with(sized(1, 32, 120), sized(2, 32, 43)))
	page[7], page[239] = 3, 1
	refused(t, "a length that goes beyond", page)
	refused(t, "numbers that go beyond", raw(0xffff, bytes.Repeat([]byte{255}, 232)...))
}

// P10.1: pairs just as they may be, and to the page's end.
func TestParseRaw(t *testing.T) {
	b, err := Parse(raw(2, 1, 1, 'k', 'v', 2, 0, 'k', 'k'))
	if err != api.OK || !like(b, with(pair("k", "v"), pair("kk", ""))) {
		t.Errorf("%v, %d", b, err)
	}
	whole := with(sized(1, 32, 120), sized(2, 32, 41), sized(3, 1, 0))
	b, err = Parse(put(t, whole))
	if err != api.OK || !like(b, whole) {
		t.Errorf("%v, %d", b, err)
	}
}

// P10.1: the place, the first one that there is.
func TestFind(t *testing.T) {
	finds := []struct {
		b    api.Bucket
		key  string
		want int
	}{
		{plain(), "one", 0},
		{plain(), "a", 1},
		{plain(), "b\x00", 2},
		{plain(), "b", -1},
		{plain(), "b\x00\x00", -1},
		{plain(), "on", -1},
		{plain(), "ONE", -1},
		{plain(), "first", -1},
		{plain(), "", -1},
		{api.Bucket{}, "a", -1},
		{api.Bucket{}, "", -1},
		{with(pair("", "v")), "", 0},
		{with(pair("j", ""), pair("k", "v"), pair("k", "w")), "k", 1},
	}
	for _, f := range finds {
		if got := Find(f.b, []byte(f.key)); got != f.want {
			t.Errorf("Find(%v, %q): %d, not %d", f.b, f.key, got, f.want)
		}
	}
	if Find(plain(), nil) != -1 || Find(with(pair("", "")), nil) != 0 {
		t.Error("nil is as an empty key")
	}
	many := with(singles(256)...)
	for i := range 256 {
		if got := Find(many, []byte{byte(i)}); got != i {
			t.Errorf("%d, not %d", got, i)
		}
	}
}

// P10.1
func TestSame(t *testing.T) {
	unlike := []api.Bucket{
		plain(),
		{},
		changed(func(b *api.Bucket) { b.Depth++ }),
		changed(func(b *api.Bucket) { b.Next++ }),
		changed(func(b *api.Bucket) { b.Depth, b.Next = b.Next, b.Depth }),
		changed(func(b *api.Bucket) { b.Next += 1 << 32 }),
		changed(func(b *api.Bucket) { b.Depth = math.MinInt }),
		changed(func(b *api.Bucket) { b.Pairs = nil }),
		changed(func(b *api.Bucket) { b.Pairs = b.Pairs[:2] }),
		changed(func(b *api.Bucket) { b.Pairs = b.Pairs[1:] }),
		changed(func(b *api.Bucket) { b.Pairs = append(b.Pairs, pair("", "")) }),
		changed(func(b *api.Bucket) { slices.Reverse(b.Pairs) }),
		changed(func(b *api.Bucket) { b.Pairs[0].Key[2]++ }),
		changed(func(b *api.Bucket) { b.Pairs[2].Value[1]++ }),
		changed(func(b *api.Bucket) { b.Pairs[1].Value = []byte{0} }),
		changed(func(b *api.Bucket) { b.Pairs[1] = pair("", "a") }),
		changed(func(b *api.Bucket) { b.Pairs[0] = pair("onef", "irst") }),
	}
	for i, a := range unlike {
		for j, b := range unlike {
			b.Pairs = slices.Clone(b.Pairs)
			for k, p := range b.Pairs {
				b.Pairs[k] = pair(string(p.Key), string(p.Value))
			}
			if got := Same(a, b); got != (i == j) {
				t.Errorf("Same(%v, %v): %v", a, b, got)
			}
		}
	}
}

// R6: nothing and nil, of pairs, keys and values.
func TestEmpty(t *testing.T) {
	none, empty := api.Bucket{}, api.Bucket{Pairs: []api.Pair{}}
	if !Same(none, empty) || !Same(empty, none) {
		t.Error("no pairs and none are unlike")
	}
	none, empty = with(api.Pair{}), with(api.Pair{Key: []byte{}, Value: []byte{}})
	if !Same(none, empty) || !Same(empty, none) {
		t.Error("no bytes and none are unlike")
	}
	none, empty = with(api.Pair{Key: []byte("k")}), with(pair("k", ""))
	if !bytes.Equal(put(t, none), put(t, empty)) {
		t.Error("no value and none have other pages")
	}
}

// R3: what Parse answers is neither the bytes it was given nor, of two parts, one the other.
func TestParseShares(t *testing.T) {
	page := put(t, plain())
	before := slices.Clone(page)
	b, _ := Parse(page)
	clear(page)
	if !like(b, plain()) {
		t.Errorf("what was parsed changes with its bytes: %v", b)
	}
	copy(page, before)
	for i := range b.Pairs {
		for _, part := range [][]byte{b.Pairs[i].Key, b.Pairs[i].Value} {
			if cap(part) != len(part) {
				t.Errorf("room behind %q", part)
			}
			_ = append(part, "written behind it"...)
			if !like(b, plain()) || !bytes.Equal(page, before) {
				t.Errorf("behind %q stands another: %v", part, b)
			}
		}
	}
	for i := range b.Pairs {
		clear(b.Pairs[i].Key[:cap(b.Pairs[i].Key)])
		clear(b.Pairs[i].Value[:cap(b.Pairs[i].Value)])
		for _, p := range b.Pairs[i+1:] {
			if Find(plain(), p.Key) < 0 {
				t.Errorf("a key is changed with the pair ahead of it: %v", b)
			}
		}
	}
	if !bytes.Equal(page, before) {
		t.Error("the bytes are changed with what was parsed")
	}
	if again, err := Parse(page); err != api.OK || !like(again, plain()) {
		t.Errorf("%v, %d", again, err)
	}
}

// R3: no argument is changed or shared, spare room included.
func TestArgumentsStay(t *testing.T) {
	room := []byte("keyvalueroom")
	pairs := append(make([]api.Pair, 0, 4), api.Pair{Key: room[:3], Value: room[3:8]}, pair("j", "w"))
	b := api.Bucket{Depth: 1, Next: 2, Pairs: pairs}
	page := put(t, b)
	Size(b)
	Fits(b)
	Find(b, room[3:5])
	Same(b, b)
	got, _ := Parse(page)
	clear(page)
	got.Pairs = append(got.Pairs, pair("more", ""))
	if string(room) != "keyvalueroom" || !like(b, api.Bucket{Depth: 1, Next: 2, Pairs: []api.Pair{pair("key", "value"), pair("j", "w")}}) {
		t.Errorf("%v, %q", b, room)
	}
	if p := pairs[:3][2]; p.Key != nil || p.Value != nil {
		t.Errorf("the spare room has %v", p)
	}
}
