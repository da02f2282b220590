package ext

import (
	"math"
	"strconv"
	"testing"

	"exchequer/api"
	"exchequer/bucket"
	"exchequer/dir"
	"exchequer/meta"
	"exchequer/pager"
)

// layMeta lets page 0 have a Meta.
func layMeta(t *testing.T, p *pager.Pager, m api.Meta) {
	t.Helper()
	data, err := meta.Put(m)
	if err != api.OK || p.Set(0, data) != api.OK {
		t.Fatalf("Meta: %d", err)
	}
}

func layBucket(t *testing.T, p *pager.Pager, page int, b api.Bucket) {
	t.Helper()
	data, err := bucket.Put(b)
	if err != api.OK || p.Set(page, data) != api.OK {
		t.Fatalf("bucket: %d", err)
	}
}

// callAll calls all that there is; nothing may go on for ever, nor panic, and beside an error there is nothing.
func callAll(t *testing.T, p *pager.Pager, keys []string) {
	t.Helper()
	s, err := Open(p)
	if err != api.OK {
		if s != nil {
			t.Errorf("Open: %v, %d", s, err)
		}
		return
	}
	if all, err := s.All(); err != api.OK && all != nil {
		t.Errorf("All: %v, %d", all, err)
	}
	s.Len()
	s.Meta()
	for _, key := range keys {
		if value, ok, err := s.Get([]byte(key)); (err != api.OK || !ok) && (value != nil || ok) {
			t.Errorf("Get: %q, %v, %d", value, ok, err)
		}
		if there, err := s.Delete([]byte(key)); err != api.OK && there {
			t.Errorf("Delete: %v, %d", there, err)
		}
		before := pagesSet(t, p)
		if err := s.Put([]byte(key), []byte(long(120))); err != api.OK && !samePages(pagesSet(t, p), before) {
			t.Errorf("Put: %d, and pages changed", err)
		}
	}
}

// R1: pages that follow one another in a circle.
func TestCircle(t *testing.T) {
	for _, depth := range []int{0, api.MaxDepth} {
		for _, next := range [][]int{{30}, {31, 30}, {31, 31}, {31, 32, 31}, {31, 32, 30}} {
			s := storeOf(t, 60)
			m := api.Meta{Depth: depth, Next: 40, Count: 9}
			for i := range dir.Need(depth) {
				m.Dir = append(m.Dir, 1+i)
			}
			layMeta(t, s.Pager, m)
			for slot := range 1 << depth {
				dir.Set(s.Pager, m, slot, 30)
			}
			for i, page := range next {
				b := api.Bucket{Depth: depth, Next: page}
				b.Pairs = []api.Pair{{Key: []byte{byte(i)}, Value: make([]byte, 120)}}
				layBucket(t, s.Pager, 30+i, b)
			}
			if all, err := s.All(); all != nil || err != api.ErrForm {
				t.Errorf("All: %v, %d", all, err)
			}
			if value, ok, err := s.Get([]byte("none")); value != nil || ok || err != api.ErrForm {
				t.Errorf("Get: %q, %v, %d", value, ok, err)
			}
			if err := s.Put([]byte("none"), nil); err != api.ErrForm {
				t.Errorf("Put: %d", err)
			}
			if there, err := s.Delete([]byte("none")); there || err != api.ErrForm {
				t.Errorf("Delete: %v, %d", there, err)
			}
		}
	}
}

// R1: all slots lead to pages that follow one another for long.
func TestLongChains(t *testing.T) {
	const pages = 3000
	s := storeOf(t, pages)
	m := api.Meta{Depth: api.MaxDepth, Next: pages, Count: 9}
	for i := range 18 {
		m.Dir = append(m.Dir, 1+i)
	}
	layMeta(t, s.Pager, m)
	for slot := range 1024 {
		dir.Set(s.Pager, m, slot, 19+slot)
	}
	for page := 19; page < pages; page++ {
		layBucket(t, s.Pager, page, api.Bucket{Depth: api.MaxDepth, Next: (page + 1) % pages})
	}
	if all, err := s.All(); all != nil || err != api.ErrForm {
		t.Errorf("All: %v, %d", all, err)
	}
	callAll(t, s.Pager, []string{"a", "b"})
}

// R1: free pages that lead nowhere, or in a circle.
func TestBrokenFree(t *testing.T) {
	for _, free := range []int{1, 2, 3, 8, 9, 100, 1 << 31, 1<<32 - 1} {
		for _, link := range []int{0, 1, 2, 8, 9, 1<<32 - 1} {
			s := storeOf(t, 9)
			for i := range 9 {
				put(t, s, strconv.Itoa(i), "v")
			}
			m := s.Meta()
			m.Free, m.Next = free, 9
			layMeta(t, s.Pager, m)
			dir.Set(s.Pager, api.Meta{Dir: []int{8}}, 0, link)
			callAll(t, s.Pager, append(keysOf("a", 3, 0, 1), keysOf("b", 3, 1, 1)...))
		}
	}
}

// R1: Metas that may be, but are of no store.
func TestBrokenMeta(t *testing.T) {
	for depth := range api.MaxDepth + 1 {
		for _, n := range []int{0, 1, 2, 3, 8, 9, 1<<32 - 1} {
			for pages := 1; pages <= 20; pages++ {
				_, p := fresh(t, 9)
				format(t, p)
				m := api.Meta{Depth: depth, Free: n, Next: n, Count: n, Dir: make([]int, pages)}
				for i := range m.Dir {
					m.Dir[i] = min(n+i, 1<<32-1)
				}
				layMeta(t, p, m)
				callAll(t, p, []string{"a", "b"})
				m.Dir[0] = 1
				layMeta(t, p, m)
				callAll(t, p, []string{"a", "b"})
			}
		}
	}
}

// R1: a bucket that is followed though it may be parted, one that is deeper than the directory, and slots of another.
func TestBrokenBucket(t *testing.T) {
	for _, b := range []api.Bucket{{Next: 3}, {Depth: 1}, {Depth: api.MaxDepth}, {Next: math.MaxUint32}, {Next: 4}} {
		s := storeOf(t, 9)
		b.Pairs = []api.Pair{{Key: []byte("a"), Value: make([]byte, 120)}, {Key: []byte("b"), Value: make([]byte, 90)}}
		layBucket(t, s.Pager, 2, b)
		layBucket(t, s.Pager, 3, api.Bucket{Pairs: []api.Pair{{Key: []byte("c"), Value: make([]byte, 120)}, {Key: []byte("d"), Value: make([]byte, 90)}}})
		if err := s.Put([]byte("e"), []byte(long(120))); err == api.OK {
			t.Errorf("Put: %d", err)
		}
		callAll(t, s.Pager, []string{"a", "e"})
	}
	s := storeOf(t, 60)
	for i, key := range append(keysOf("a", 1, 0, 3), keysOf("b", 1, 4, 3)...) {
		put(t, s, key, long(100+i))
	}
	// Of the slots of the odd ones' bucket one has another page.
	dir.Set(s.Pager, s.Meta(), 7, 2)
	odd := append(keysOf("c", 1, 1, 3), keysOf("d", 1, 3, 3)...)
	put(t, s, odd[0], long(120))
	if err := s.Put([]byte(odd[1]), []byte(long(120))); err != api.ErrForm {
		t.Errorf("Put: %d", err)
	}
	callAll(t, s.Pager, odd)
}

// R1: each byte of a store's pages made another one.
func TestBytesChanged(t *testing.T) {
	keys := append(keysOf("a", 2, 0, 2), keysOf("b", 1, 3, 2)...)
	_, p := fresh(t, 8)
	s := format(t, p)
	for _, key := range keys {
		put(t, s, key, long(100))
	}
	put(t, s, "a", "b")
	commit(t, s)
	for page := range s.Meta().Next {
		data, _ := p.Get(page)
		for i := range data {
			for _, c := range []byte{0, 1, 2, 10, 0x42, 0xFF, data[i] + 1, data[i] ^ 0x80} {
				other := append([]byte(nil), data...)
				other[i] = c
				p.Set(page, other)
				callAll(t, p, append(keys, "a"))
				p.Abort()
			}
		}
	}
}
