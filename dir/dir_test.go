package dir

import (
	"bytes"
	"math"
	"slices"
	"testing"

	"exchequer/api"
	"exchequer/disk"
	"exchequer/pager"
	"exchequer/redo"
)

const most = 1<<32 - 1 // what 4 bytes take

// odd answers numbers that are neither slots, depths nor pages.
func odd() []int {
	return []int{-1, -60, math.MinInt, math.MaxInt, 1 << 32, 1 << 40}
}

// fresh answers a disk of so many pages, and a pager on it.
func fresh(t *testing.T, pages int) (*disk.Disk, *pager.Pager) {
	t.Helper()
	d, err := disk.New(2*pages + 1)
	if err != api.OK || redo.Format(d) != api.OK {
		t.Fatalf("no disk: %d", err)
	}
	l, err := redo.Open(d)
	if err != api.OK {
		t.Fatalf("Open: %d", err)
	}
	p, err := pager.New(l)
	if err != api.OK {
		t.Fatalf("New: %d", err)
	}
	return d, p
}

// down lets a disk go down.
func down(d *disk.Disk) {
	d.Arm(0)
	d.Write(0, make([]byte, api.Sector))
}

// with answers a Meta of this depth whose directory is on the pages from first on, falling: its order counts.
func with(depth, first int) api.Meta {
	m := api.Meta{Depth: depth}
	for i := range pagesOf(depth) {
		m.Dir = append(m.Dir, first+pagesOf(depth)-1-i)
	}
	return m
}

// pagesOf answers how many pages 2^depth slots take, asked without Need.
func pagesOf(depth int) int {
	return []int{1, 1, 1, 1, 1, 1, 2, 3, 5, 9, 18}[depth]
}

func set(t *testing.T, p *pager.Pager, m api.Meta, slot, page int) {
	t.Helper()
	if err := Set(p, m, slot, page); err != api.OK {
		t.Fatalf("Set(%d, %d): %d", slot, page, err)
	}
}

func holds(t *testing.T, p *pager.Pager, m api.Meta, slot, page int) {
	t.Helper()
	if got, err := Get(p, m, slot); got != page || err != api.OK {
		t.Errorf("Get(%d): %d, %d, not %d", slot, got, err, page)
	}
}

// P11.1
func TestPer(t *testing.T) {
	if Per() != 60 {
		t.Error(Per())
	}
}

// P11.1: depths are held from 0 to MaxDepth.
func TestNeed(t *testing.T) {
	for depth := range api.MaxDepth + 1 {
		if got := Need(depth); got != pagesOf(depth) {
			t.Errorf("Need(%d): %d", depth, got)
		}
	}
	for _, depth := range []int{-1, -2, -64, math.MinInt} {
		if got := Need(depth); got != 1 {
			t.Errorf("Need(%d): %d", depth, got)
		}
	}
	for _, depth := range []int{11, 12, 63, 64, 65, math.MaxInt} {
		if got := Need(depth); got != 18 {
			t.Errorf("Need(%d): %d", depth, got)
		}
	}
}

// P11.1, P11.2: all slots of all depths, each with a number of its own.
func TestSetGet(t *testing.T) {
	_, p := fresh(t, 30)
	for depth := range api.MaxDepth + 1 {
		m := with(depth, 4)
		for slot := range 1 << depth {
			set(t, p, m, slot, most-slot*depth)
		}
		for slot := range 1 << depth {
			holds(t, p, m, slot, most-slot*depth)
		}
	}
}

// P11.2: what was Set is got, others stay: the one slot, of all, and all other bytes of all pages.
func TestOthersStay(t *testing.T) {
	_, p := fresh(t, 24)
	m := with(api.MaxDepth, 3)
	for page := range 24 {
		p.Set(page, bytes.Repeat([]byte{byte(page + 1)}, api.Page))
	}
	for _, slot := range []int{0, 1, 58, 59, 60, 61, 119, 120, 512, 1019, 1020, 1023} {
		want := pagesAll(t, p)
		copy(want[m.Dir[slot/60]][slot%60*4:], []byte{0x12, 0x34, 0x56, 0x78})
		set(t, p, m, slot, 0x12345678)
		if !slices.EqualFunc(pagesAll(t, p), want, bytes.Equal) {
			t.Fatalf("slot %d: other bytes than its own", slot)
		}
	}
}

func pagesAll(t *testing.T, p *pager.Pager) [][]byte {
	t.Helper()
	var all [][]byte
	for page := range p.Pages() {
		b, err := p.Get(page)
		if err != api.OK {
			t.Fatalf("page %d: %d", page, err)
		}
		all = append(all, b)
	}
	return all
}

// P11.1: four bytes each, the highest first, Per on each page.
func TestWhere(t *testing.T) {
	_, p := fresh(t, 8)
	m := api.Meta{Depth: 7, Dir: []int{5, 0, 7}}
	set(t, p, m, 0, 0x01020304)
	set(t, p, m, 59, 0xFFFEFDFC)
	set(t, p, m, 60, 7)
	set(t, p, m, 127, 0x80000000)
	first := make([]byte, api.Page)
	copy(first, []byte{1, 2, 3, 4})
	copy(first[236:], []byte{255, 254, 253, 252})
	second := make([]byte, api.Page)
	second[3] = 7
	third := make([]byte, api.Page)
	third[28] = 0x80
	for page, want := range map[int][]byte{5: first, 0: second, 7: third} {
		if got, _ := p.Get(page); !bytes.Equal(got, want) {
			t.Errorf("page %d: %v", page, got)
		}
	}
	if got := p.Changed(); !slices.Equal(got, []int{0, 5, 7}) {
		t.Errorf("Changed: %v", got)
	}
}

// P11.1: Get sets nothing; a page of noughts has noughts.
func TestGetOfNoughts(t *testing.T) {
	_, p := fresh(t, 20)
	m := with(api.MaxDepth, 2)
	for _, slot := range []int{0, 1, 59, 60, 1023} {
		holds(t, p, m, slot, 0)
	}
	if got := p.Changed(); len(got) != 0 {
		t.Errorf("Changed: %v", got)
	}
}

// P11.1: the bounds of a number.
func TestNumbers(t *testing.T) {
	_, p := fresh(t, 5)
	m := with(1, 1)
	for _, page := range []int{0, 1, 255, 256, 65535, 65536, most - 1, most} {
		set(t, p, m, 1, page)
		holds(t, p, m, 1, page)
		holds(t, p, m, 0, 0)
	}
	for _, page := range odd() {
		if err := Set(p, m, 1, page); err != api.ErrArg {
			t.Errorf("Set of %d: %d", page, err)
		}
	}
	holds(t, p, m, 1, most)
}

// wrong looks whether a slot is refused, and nothing changed.
func wrong(t *testing.T, p *pager.Pager, m api.Meta, slot int) {
	t.Helper()
	if page, err := Get(p, m, slot); page != 0 || err != api.ErrArg {
		t.Errorf("Get(%v, %d): %d, %d", m, slot, page, err)
	}
	if err := Set(p, m, slot, 1); err != api.ErrArg {
		t.Errorf("Set(%v, %d): %d", m, slot, err)
	}
	if got := p.Changed(); len(got) != 0 {
		t.Errorf("Changed: %v", got)
	}
}

// P11.1: slots beyond 2^Depth.
func TestWrongSlot(t *testing.T) {
	_, p := fresh(t, 30)
	for depth := range api.MaxDepth + 1 {
		m := with(depth, 2)
		for _, slot := range append(odd(), 1<<depth, 1<<depth+1, 2<<depth, 1<<31) {
			wrong(t, p, m, slot)
		}
	}
}

// P11.1: depths that may not be, with whatever directory.
func TestWrongDepth(t *testing.T) {
	_, p := fresh(t, 30)
	for _, depth := range append(odd(), -64, 11, 12, 63, 64) {
		for _, pages := range []int{0, 1, 18, 20} {
			m := api.Meta{Depth: depth, Dir: with(api.MaxDepth, 2).Dir[:min(pages, 18)]}
			for _, slot := range []int{0, 1, 1023, -1} {
				wrong(t, p, m, slot)
			}
		}
	}
}

// P11.1: directories of less or more pages than the depth needs.
func TestWrongDir(t *testing.T) {
	_, p := fresh(t, 30)
	for depth := range api.MaxDepth + 1 {
		m := with(depth, 2)
		less, more := m, m
		less.Dir = m.Dir[1:]
		more.Dir = append(slices.Clone(m.Dir), 25)
		for _, slot := range []int{0, 1<<depth - 1} {
			wrong(t, p, less, slot)
			wrong(t, p, more, slot)
			wrong(t, p, api.Meta{Depth: depth}, slot)
		}
	}
}

// P11.1: a directory on pages that are not there is the pager's to refuse.
func TestNoSuchPage(t *testing.T) {
	_, p := fresh(t, 5)
	for _, page := range append(odd(), 5, 6) {
		wrong(t, p, api.Meta{Depth: 1, Dir: []int{page}}, 1)
		// The page of the slot alone counts.
		holds(t, p, api.Meta{Depth: 6, Dir: []int{4, page}}, 59, 0)
		wrong(t, p, api.Meta{Depth: 6, Dir: []int{4, page}}, 60)
	}
}

// P11.1: the pager's errors, behind those of arguments.
func TestPagerErrors(t *testing.T) {
	d, p := fresh(t, 5)
	down(d)
	m := with(6, 1)
	for _, c := range []struct {
		p    *pager.Pager
		want api.Errno
	}{{p, api.ErrDown}, {nil, api.ErrNil}, {&pager.Pager{}, api.ErrNil}} {
		if page, err := Get(c.p, m, 3); page != 0 || err != c.want {
			t.Errorf("Get: %d, %d, not %d", page, err, c.want)
		}
		if err := Set(c.p, m, 3, 9); err != c.want {
			t.Errorf("Set: %d, not %d", err, c.want)
		}
		if page, err := Get(c.p, m, 64); page != 0 || err != api.ErrArg {
			t.Errorf("Get of a wrong slot: %d, %d", page, err)
		}
		if err := Set(c.p, m, 64, 9); err != api.ErrArg {
			t.Errorf("Set of a wrong slot: %d", err)
		}
		if err := Set(c.p, m, 3, -1); err != api.ErrArg {
			t.Errorf("Set of a wrong page: %d", err)
		}
		if err := Set(c.p, api.Meta{Depth: 6, Dir: []int{1}}, 3, 9); err != api.ErrArg {
			t.Errorf("Set of a wrong directory: %d", err)
		}
	}
	if got := p.Changed(); len(got) != 0 {
		t.Errorf("Changed: %v", got)
	}
}

// P11.1: what was set needs no disk, and comes about with the pager's Commit alone.
func TestThroughPager(t *testing.T) {
	d, p := fresh(t, 5)
	m := with(2, 3)
	set(t, p, m, 2, 77)
	p.Abort()
	holds(t, p, m, 2, 0)
	set(t, p, m, 2, 78)
	if err := p.Commit(); err != api.OK {
		t.Fatalf("Commit: %d", err)
	}
	p.Abort()
	holds(t, p, m, 2, 78)
	set(t, p, m, 3, 79)
	down(d)
	holds(t, p, m, 2, 78)
	set(t, p, m, 2, 80)
	holds(t, p, m, 2, 80)
}

// P11.1: of a Meta its Depth and Dir count.
func TestOtherFields(t *testing.T) {
	_, p := fresh(t, 5)
	m := api.Meta{Depth: 1, Dir: []int{2}, Free: -1, Next: -5, Count: math.MaxInt}
	set(t, p, m, 1, 6)
	holds(t, p, m, 1, 6)
	holds(t, p, api.Meta{Depth: 1, Dir: []int{2}}, 1, 6)
}

// R3: a Meta that is handed in stays, its spare room included.
func TestMetaStays(t *testing.T) {
	_, p := fresh(t, 5)
	room := []int{2, 3, 4, 9}
	m := api.Meta{Depth: 6, Dir: room[:2]}
	set(t, p, m, 1, 6)
	holds(t, p, m, 1, 6)
	if !slices.Equal(room, []int{2, 3, 4, 9}) {
		t.Errorf("changed: %v", room)
	}
}

// P11.2: many steps, held against a table.
func TestLongLife(t *testing.T) {
	_, p := fresh(t, 20)
	seed := uint32(11)
	next := func(n int) int {
		seed = seed*1664525 + 1013904223
		return int(seed>>8) % n
	}
	m := with(api.MaxDepth, 2)
	want := make([]int, 1024)
	for range 20000 {
		slot := next(1024)
		want[slot] = next(1 << 24)
		set(t, p, m, slot, want[slot])
	}
	for slot, page := range want {
		holds(t, p, m, slot, page)
	}
}
