package ext

import (
	"strconv"
	"testing"

	"exchequer/api"
	"exchequer/bucket"
	"exchequer/dir"
)

// bucketsOf answers the buckets of a slot of the greatest depth, the first one ahead.
func bucketsOf(t *testing.T, s *Store, slot int) []api.Bucket {
	t.Helper()
	page, err := dir.Get(s.Pager, s.Meta(), slot%(1<<s.Meta().Depth))
	if err != api.OK {
		t.Fatalf("slot %d: %d", slot, err)
	}
	var bs []api.Bucket
	for page != 0 {
		data, _ := s.Pager.Get(page)
		b, err := bucket.Parse(data)
		if err != api.OK {
			t.Fatalf("page %d: %d", page, err)
		}
		bs = append(bs, b)
		page = b.Next
	}
	return bs
}

// P12.2: a bucket takes what its page has room for, and is parted behind that alone.
func TestPartedWhenFull(t *testing.T) {
	s := storeOf(t, 20)
	low, high := keysOf("a", 3, 0, 1), keysOf("b", 3, 1, 1)
	want := map[string]string{low[0]: long(82), high[0]: long(82)}
	put(t, s, low[0], long(82))
	put(t, s, high[0], long(82))
	if l := holds(t, s, want); l.m.Depth != 0 || l.m.Next != 3 {
		t.Errorf("just full: %v", l.m)
	}
	// One byte more than the page has.
	put(t, s, high[0], long(83))
	want[high[0]] = long(83)
	if l := holds(t, s, want); l.m.Depth != 1 || l.m.Next != 4 {
		t.Errorf("parted: %v", l.m)
	}
	put(t, s, low[0], long(120))
	want[low[0]] = long(120)
	put(t, s, low[1], long(8))
	want[low[1]] = long(8)
	if l := holds(t, s, want); l.m.Depth != 1 || l.m.Next != 4 {
		t.Errorf("one half: %v", l.m)
	}
}

// P12.2: keys with the same low bits part their bucket, and double the directory, till a bit is unlike.
func TestPartedDeep(t *testing.T) {
	for depth := range api.MaxDepth {
		for _, slot := range []int{0, 1<<depth - 1} {
			s := storeOf(t, 60)
			low := keysOf("a", 1, slot, depth+1)[0]
			high := keysOf("b", 1, slot+1<<depth, depth+1)[0]
			put(t, s, low, long(120))
			put(t, s, high, long(120))
			l := holds(t, s, map[string]string{low: long(120), high: long(120)})
			if l.m.Depth != depth+1 || l.m.Next != 1+dir.Need(depth+1)+depth+2 {
				t.Errorf("%d bits the same: %v", depth, l.m)
			}
		}
	}
}

// P12.2: a bucket of a lower depth is parted in a directory of more, which stays.
func TestPartedShallow(t *testing.T) {
	s := storeOf(t, 60)
	want := map[string]string{}
	for i, key := range append(keysOf("a", 1, 0, 10), keysOf("b", 1, 512, 10)...) {
		put(t, s, key, long(120))
		want[key] = long(120)
		if i == 1 && s.Meta().Depth != api.MaxDepth {
			t.Fatalf("Meta: %v", s.Meta())
		}
	}
	next := s.Meta().Next
	// The odd slots are one bucket's still.
	for i, key := range append(keysOf("c", 1, 1, 2), keysOf("d", 1, 3, 2)...) {
		put(t, s, key, long(120))
		want[key] = long(120)
		if l := holds(t, s, want); l.m.Depth != api.MaxDepth || l.m.Next != next+i {
			t.Fatalf("Meta: %v", l.m)
		}
	}
}

// P12.2: with MaxDepth pages follow, one more at a time, and without keys they are free.
func TestFollow(t *testing.T) {
	s := storeOf(t, 60)
	keys := keysOf("a", 6, 700, 10)
	want := map[string]string{}
	for i, key := range keys {
		put(t, s, key, long(120))
		want[key] = long(120)
		holds(t, s, want)
		if got := len(bucketsOf(t, s, 700)); got != i+1 {
			t.Fatalf("%d buckets of %d keys", got, i+1)
		}
	}
	next := s.Meta().Next
	// One in the middle, the last one, and the first one, which stays.
	for _, i := range []int{2, 5, 0} {
		remove(t, s, keys[i], true)
		delete(want, keys[i])
		holds(t, s, want)
	}
	if l := holds(t, s, want); l.free != 2 || len(bucketsOf(t, s, 700)) != 4 || l.m.Next != next {
		t.Fatalf("%d free, %d buckets, %v", l.free, len(bucketsOf(t, s, 700)), l.m)
	}
	// The first one has room again; then the free ones are taken, and then a new one.
	for i, key := range keysOf("b", 4, 700, 10) {
		put(t, s, key, long(120))
		want[key] = long(120)
		l := holds(t, s, want)
		if l.free != max(2-i, 0) || l.m.Next != next+max(i-2, 0) {
			t.Fatalf("%d more: %d free, %v", i+1, l.free, l.m)
		}
	}
	for key := range want {
		remove(t, s, key, true)
	}
	if l := holds(t, s, nil); len(bucketsOf(t, s, 700)) != 1 || l.m.Next != next+1 {
		t.Fatalf("%v", l.m)
	}
}

// P12.2: free pages are taken for all that needs one: buckets that are parted, and the directory.
func TestFreeIsTaken(t *testing.T) {
	s := storeOf(t, 120)
	keys := keysOf("a", 8, 3, 10)
	for _, key := range keys {
		put(t, s, key, long(120))
	}
	for _, key := range keys {
		remove(t, s, key, true)
	}
	l := holds(t, s, nil)
	if l.free != 7 {
		t.Fatalf("%d are free", l.free)
	}
	want := map[string]string{}
	for i, key := range append(keysOf("b", 1, 0, 3), keysOf("c", 1, 4, 3)...) {
		put(t, s, key, long(120))
		want[key] = long(120)
		if again := holds(t, s, want); again.m.Next != l.m.Next || again.free != 7-2*i {
			t.Fatalf("%d free, %v", again.free, again.m)
		}
	}
}

// P12.2: a key in a page that follows keeps its place, though the first page has room, and takes another when it must.
func TestReplaceInChain(t *testing.T) {
	s := storeOf(t, 60)
	keys := keysOf("a", 8, 5, 10)
	want := map[string]string{}
	for _, key := range keys {
		put(t, s, key, long(60))
		want[key] = long(60)
	}
	if got := len(bucketsOf(t, s, 5)); got != 4 {
		t.Fatalf("%d buckets", got)
	}
	for _, n := range []int{61, 82, 83, 120, 0, 60, 120, 10} {
		for _, key := range keys {
			put(t, s, key, long(n))
			want[key] = long(n)
			holds(t, s, want)
		}
	}
}

// P12.1: without a page left ErrFull; what was committed is there.
func TestFull(t *testing.T) {
	low, high := keysOf("a", 2, 0, 1), keysOf("b", 1, 1, 1)
	for _, c := range []struct {
		pages int
		key   string
		want  api.Errno
	}{
		{3, high[0], api.ErrFull},
		{4, high[0], api.OK},
		{3, low[1], api.ErrFull},
		{4, low[1], api.ErrFull},
	} {
		d, p := fresh(t, c.pages)
		s := format(t, p)
		put(t, s, low[0], long(120))
		commit(t, s)
		if err := s.Put([]byte(c.key), []byte(long(120))); err != c.want {
			t.Errorf("%d pages: %d, not %d", c.pages, err, c.want)
		}
		p.Abort()
		holds(t, openOn(t, d), map[string]string{low[0]: long(120)})
		s, _ = Open(p)
		holds(t, s, map[string]string{low[0]: long(120)})
		put(t, s, low[0], "less")
		put(t, s, c.key, long(120))
		commit(t, s)
		holds(t, openOn(t, d), map[string]string{low[0]: "less", c.key: long(120)})
	}
}

// P12.1: on disks of all sizes keys are put till it is full, committed one by one.
func TestFillUp(t *testing.T) {
	for pages := 3; pages < 80; pages++ {
		d, p := fresh(t, pages)
		s := format(t, p)
		want := map[string]string{}
		for i := 0; ; i++ {
			key := "key" + strconv.Itoa(i)
			err := s.Put([]byte(key), []byte(long(i%121)))
			if err == api.ErrFull {
				break
			}
			if err != api.OK {
				t.Fatalf("%d pages: Put: %d", pages, err)
			}
			want[key] = long(i % 121)
			commit(t, s)
		}
		p.Abort()
		s = openOn(t, d)
		holds(t, s, want)
		if pages > 20 && len(want) < pages {
			t.Errorf("%d pages: full with %d keys", pages, len(want))
		}
		// There is room again where keys go.
		for key := range want {
			remove(t, s, key, true)
		}
		holds(t, s, nil)
		put(t, s, "a", "b")
	}
}

// P12.1, P12.3: on just so many pages all keys find room, each alone in a page, whatever their hashes.
func TestRoom(t *testing.T) {
	const n = 2500
	wide, narrow := make([]string, n), keysOf("n", 120, 77, 10)
	for i := range wide {
		wide[i] = keysOf(strconv.Itoa(i)+".", 1, 0, 0)[0]
	}
	for _, keys := range [][]string{wide, narrow, wide[:1], append(wide[:600:600], narrow...)} {
		s := storeOf(t, 1100+len(keys))
		want := map[string]string{}
		for range 2 {
			for _, key := range keys {
				put(t, s, key, long(120))
				want[key] = long(120)
			}
			holds(t, s, want)
			for _, key := range keys[len(keys)/3:] {
				remove(t, s, key, true)
				delete(want, key)
			}
			holds(t, s, want)
		}
	}
}

// P12.3: also for as many keys as fill all 1024 slots, and more.
func TestRoomEverySlot(t *testing.T) {
	var keys []string
	want := map[string]string{}
	for slot := range 1024 {
		keys = append(keys, keysOf(strconv.Itoa(slot)+".", 2, slot, 10)...)
	}
	s := storeOf(t, 1100+len(keys))
	for _, key := range keys {
		put(t, s, key, long(120))
		want[key] = long(120)
	}
	if l := holds(t, s, want); l.m.Next != 1+18+2048 {
		t.Errorf("Meta: %v", l.m)
	}
}
