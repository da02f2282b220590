package meta

import (
	"bytes"
	"math"
	"slices"
	"testing"

	"exchequer/api"
)

const most = 1<<32 - 1 // what 4 bytes take

// plain answers a Meta whose numbers are all unlike.
func plain() api.Meta {
	return api.Meta{Depth: 7, Free: 0x01020304, Next: 0xfffefdfc, Count: 5, Dir: []int{9, 0x0a0b0c0d}}
}

// changed answers plain with a change.
func changed(change func(m *api.Meta)) api.Meta {
	m := plain()
	change(&m)
	return m
}

// run answers n numbers, from first on.
func run(first, n int) []int {
	var ns []int
	for i := range n {
		ns = append(ns, first+i)
	}
	return ns
}

func put(t *testing.T, m api.Meta) []byte {
	t.Helper()
	page, err := Put(m)
	if err != api.OK || len(page) != api.Page {
		t.Fatalf("Put(%v): %d bytes, %d", m, len(page), err)
	}
	return page
}

// like tells whether a and b are the same, asked without Same.
func like(a, b api.Meta) bool {
	return a.Depth == b.Depth && a.Free == b.Free && a.Next == b.Next && a.Count == b.Count && slices.Equal(a.Dir, b.Dir)
}

// rightMetas answers Metas at the bounds of what may be.
func rightMetas() []api.Meta {
	return []api.Meta{
		plain(),
		{Dir: []int{0}},
		{Depth: api.MaxDepth, Free: most, Next: most, Count: most, Dir: []int{most}},
		changed(func(m *api.Meta) { m.Depth = 0 }),
		changed(func(m *api.Meta) { m.Free = 0 }),
		changed(func(m *api.Meta) { m.Next = 0 }),
		changed(func(m *api.Meta) { m.Count = 0 }),
		changed(func(m *api.Meta) { m.Dir = run(most-19, 20) }),
		changed(func(m *api.Meta) { m.Dir = make([]int, 20) }),
		changed(func(m *api.Meta) { m.Dir = []int{3, 3, 3} }),
		changed(func(m *api.Meta) { m.Dir = []int{0, 1, 0} }),
	}
}

// wrongMetas answers Metas that may not be, each for one cause.
func wrongMetas() []api.Meta {
	wrong := []api.Meta{
		{},
		changed(func(m *api.Meta) { m.Dir = nil }),
		changed(func(m *api.Meta) { m.Dir = []int{} }),
		changed(func(m *api.Meta) { m.Dir = make([]int, 21) }),
		changed(func(m *api.Meta) { m.Dir = make([]int, 256) }),
		changed(func(m *api.Meta) { m.Dir = make([]int, 258) }),
		changed(func(m *api.Meta) { m.Depth = api.MaxDepth + 1 }),
		changed(func(m *api.Meta) { m.Depth = 256 }),
	}
	for _, n := range []int{-1, math.MinInt, math.MaxInt, most + 1} {
		wrong = append(wrong,
			changed(func(m *api.Meta) { m.Depth = n }),
			changed(func(m *api.Meta) { m.Free = n }),
			changed(func(m *api.Meta) { m.Next = n }),
			changed(func(m *api.Meta) { m.Count = n }),
			changed(func(m *api.Meta) { m.Dir[0] = n }),
			changed(func(m *api.Meta) { m.Dir[1] = n }),
			changed(func(m *api.Meta) { m.Dir = append(run(0, 19), n) }),
		)
	}
	return wrong
}

// P8.1: each number where it is to stand, the highest byte first, noughts behind.
func TestPut(t *testing.T) {
	want := []byte{
		'E', 'X', 'C', 'H', 7, 2,
		1, 2, 3, 4,
		0xff, 0xfe, 0xfd, 0xfc,
		0, 0, 0, 5,
		0, 0, 0, 9,
		0x0a, 0x0b, 0x0c, 0x0d,
	}
	want = append(want, make([]byte, api.Page-len(want))...)
	if got := put(t, plain()); !bytes.Equal(got, want) {
		t.Errorf("%v, not %v", got, want)
	}
}

// P8.1: the greatest directory.
func TestPutFull(t *testing.T) {
	page := put(t, changed(func(m *api.Meta) { m.Dir = run(1, 20) }))
	if page[5] != 20 {
		t.Errorf("how many: %d", page[5])
	}
	for i := range 20 {
		at := 18 + 4*i
		if !bytes.Equal(page[at:at+4], []byte{0, 0, 0, byte(i + 1)}) {
			t.Errorf("Dir %d: %v", i, page[at:at+4])
		}
	}
	if !bytes.Equal(page[98:], make([]byte, api.Page-98)) {
		t.Errorf("behind it: %v", page[98:])
	}
}

// P8.1, R2: what may not be.
func TestPutWrong(t *testing.T) {
	for _, m := range wrongMetas() {
		if page, err := Put(m); err != api.ErrArg || page != nil {
			t.Errorf("Put(%v): %v, %d", m, page, err)
		}
	}
}

// P8.2
func TestParseOfPut(t *testing.T) {
	for _, m := range rightMetas() {
		if got, err := Parse(put(t, m)); err != api.OK || !like(got, m) {
			t.Errorf("%v, %d, not %v", got, err, m)
		}
	}
}

// P8.2: each depth, and each length of a directory.
func TestParseAll(t *testing.T) {
	for depth := range api.MaxDepth + 1 {
		for n := range 20 {
			m := changed(func(m *api.Meta) { m.Depth, m.Dir = depth, run(1000*n, n+1) })
			if got, err := Parse(put(t, m)); err != api.OK || !like(got, m) {
				t.Errorf("%v, %d, not %v", got, err, m)
			}
		}
	}
}

// refused looks whether Parse says ErrForm, with a Meta of noughts.
func refused(t *testing.T, what string, data []byte) {
	t.Helper()
	if m, err := Parse(data); err != api.ErrForm || !like(m, api.Meta{}) || m.Dir != nil {
		t.Errorf("%s: %v, %d", what, m, err)
	}
}

// P8.1: bytes of another length.
func TestParseLength(t *testing.T) {
	page := put(t, plain())
	refused(t, "nil", nil)
	refused(t, "nothing", []byte{})
	refused(t, "letters", []byte("EXCH"))
	refused(t, "a byte less", page[:api.Page-1])
	refused(t, "what tells something", page[:26])
	refused(t, "a byte more", append(slices.Clone(page), 0))
	refused(t, "a sector", append(slices.Clone(page), make([]byte, api.Sector-api.Page)...))
}

// P8.1: noughts, and bytes that Put never makes.
func TestParseForm(t *testing.T) {
	refused(t, "noughts", make([]byte, api.Page))
	refused(t, "all 255", bytes.Repeat([]byte{255}, api.Page))
	for i := range api.Page {
		page := put(t, plain())
		page[i] ^= 0x80
		what := "byte " + string(rune('0'+i/100)) + string(rune('0'+i/10%10)) + string(rune('0'+i%10))
		// From byte 6 to 25 stand numbers of 4 bytes, which may be any.
		if i >= 6 && i < 26 {
			if m, err := Parse(page); err != api.OK || !bytes.Equal(put(t, m), page) {
				t.Errorf("%s: %v, %d", what, m, err)
			}
			continue
		}
		refused(t, what, page)
	}
}

// P8.1: a depth, or a length of a directory, that may not be.
func TestParseBounds(t *testing.T) {
	for depth := api.MaxDepth + 1; depth < 256; depth++ {
		page := put(t, plain())
		page[4] = byte(depth)
		refused(t, "depth", page)
	}
	for n := range 256 {
		page := put(t, changed(func(m *api.Meta) { m.Dir = make([]int, 1) }))
		page[5] = byte(n)
		if n < 1 || n > 20 {
			refused(t, "how many", page)
			continue
		}
		if m, err := Parse(page); err != api.OK || len(m.Dir) != n {
			t.Errorf("how many %d: %v, %d", n, m, err)
		}
	}
}

// P8.1: a directory that is said to be shorter than what stands there.
func TestParseBehind(t *testing.T) {
	page := put(t, plain())
	page[5] = 1
	refused(t, "a number behind", page)
	page = put(t, plain())
	page[api.Page-1] = 1
	refused(t, "the last byte", page)
}

// P8.1
func TestSame(t *testing.T) {
	unlike := []api.Meta{
		plain(),
		{},
		changed(func(m *api.Meta) { m.Depth++ }),
		changed(func(m *api.Meta) { m.Free++ }),
		changed(func(m *api.Meta) { m.Next++ }),
		changed(func(m *api.Meta) { m.Count++ }),
		changed(func(m *api.Meta) { m.Free, m.Next = m.Next, m.Free }),
		changed(func(m *api.Meta) { m.Dir[0]++ }),
		changed(func(m *api.Meta) { m.Dir[1]++ }),
		changed(func(m *api.Meta) { m.Dir = m.Dir[:1] }),
		changed(func(m *api.Meta) { m.Dir = append(m.Dir, 0) }),
		changed(func(m *api.Meta) { m.Dir = nil }),
		changed(func(m *api.Meta) { slices.Reverse(m.Dir) }),
		changed(func(m *api.Meta) { m.Count += 1 << 32 }),
		changed(func(m *api.Meta) { m.Depth = math.MinInt }),
	}
	for i, a := range unlike {
		for j, b := range unlike {
			b.Dir = slices.Clone(b.Dir)
			if got := Same(a, b); got != (i == j) {
				t.Errorf("Same(%v, %v): %v", a, b, got)
			}
		}
	}
}

// R6: no directory and an empty one.
func TestSameEmpty(t *testing.T) {
	if !Same(api.Meta{Dir: nil}, api.Meta{Dir: []int{}}) || !Same(api.Meta{}, api.Meta{}) {
		t.Error("nil and empty are unlike")
	}
}

// R3: nothing is changed or shared, spare room included.
func TestNothingShared(t *testing.T) {
	room := []int{9, 8, 7, 6}
	m := changed(func(m *api.Meta) { m.Dir = room[:2] })
	page := put(t, m)
	before := slices.Clone(page)
	got, _ := Parse(page)
	got.Dir[0] = 99
	got.Dir = append(got.Dir, 99)
	if !bytes.Equal(page, before) {
		t.Error("Parse shares its bytes")
	}
	page[18] = 99
	if !slices.Equal(room, []int{9, 8, 7, 6}) {
		t.Errorf("the directory is changed: %v", room)
	}
	again, _ := Parse(before)
	if !like(again, m) {
		t.Errorf("%v, not %v", again, m)
	}
	if !Same(m, again) || !slices.Equal(room, []int{9, 8, 7, 6}) {
		t.Errorf("Same changes something: %v", room)
	}
}
