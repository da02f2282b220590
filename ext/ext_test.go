package ext

import (
	"bytes"
	"math"
	"slices"
	"strconv"
	"strings"
	"testing"

	"exchequer/api"
	"exchequer/disk"
	"exchequer/hash"
	"exchequer/pager"
	"exchequer/redo"
)

// fresh answers a disk of so many pages, and a pager on it.
func fresh(t *testing.T, pages int) (*disk.Disk, *pager.Pager) {
	t.Helper()
	d, err := disk.New(2*pages + 1)
	if err != api.OK || redo.Format(d) != api.OK {
		t.Fatalf("no disk: %d", err)
	}
	return d, pagerOf(t, d)
}

func pagerOf(t *testing.T, d *disk.Disk) *pager.Pager {
	t.Helper()
	l, err := redo.Open(d)
	if err != api.OK {
		t.Fatalf("redo.Open: %d", err)
	}
	p, err := pager.New(l)
	if err != api.OK {
		t.Fatalf("pager.New: %d", err)
	}
	return p
}

// down lets a disk go down.
func down(d *disk.Disk) {
	d.Arm(0)
	d.Write(0, make([]byte, api.Sector))
}

// storeOf answers a new store on so many pages.
func storeOf(t *testing.T, pages int) *Store {
	t.Helper()
	_, p := fresh(t, pages)
	return format(t, p)
}

func format(t *testing.T, p *pager.Pager) *Store {
	t.Helper()
	s, err := Format(p)
	if s == nil || err != api.OK {
		t.Fatalf("Format: %v, %d", s, err)
	}
	return s
}

func put(t *testing.T, s *Store, key, value string) {
	t.Helper()
	if err := s.Put([]byte(key), []byte(value)); err != api.OK {
		t.Fatalf("Put(%q, %d bytes): %d", key, len(value), err)
	}
}

func remove(t *testing.T, s *Store, key string, want bool) {
	t.Helper()
	if there, err := s.Delete([]byte(key)); there != want || err != api.OK {
		t.Fatalf("Delete(%q): %v, %d", key, there, err)
	}
}

func commit(t *testing.T, s *Store) {
	t.Helper()
	if err := s.Commit(); err != api.OK {
		t.Fatalf("Commit: %d", err)
	}
}

// long answers a value of n bytes.
func long(n int) string { return strings.Repeat("v", n) }

// keysOf answers n keys of MaxKey bytes whose hashes have this slot at this depth; the series are unlike.
func keysOf(series string, n, slot, depth int) []string {
	var keys []string
	for i := 0; len(keys) < n; i++ {
		key := series + strconv.Itoa(i)
		key += strings.Repeat("k", api.MaxKey-len(key))
		if hash.Slot(hash.Of([]byte(key)), depth) == slot {
			keys = append(keys, key)
		}
	}
	return keys
}

// P12.1: less than 3 pages are too few, and then nothing is set.
func TestFormatFull(t *testing.T) {
	for _, pages := range []int{1, 2} {
		_, p := fresh(t, pages)
		if s, err := Format(p); s != nil || err != api.ErrFull || len(p.Changed()) != 0 {
			t.Errorf("%d pages: %v, %d, %v", pages, s, err, p.Changed())
		}
	}
	for _, pages := range []int{3, 4, 100} {
		s := storeOf(t, pages)
		holds(t, s, nil)
		if s.Meta().Next != 3 || s.Meta().Depth != 0 || s.Meta().Free != 0 {
			t.Errorf("Meta: %v", s.Meta())
		}
	}
}

// P12.1: a pager that no call made has no pages to format, and refuses to be read.
func TestUnmadePager(t *testing.T) {
	for _, p := range []*pager.Pager{nil, {}} {
		if s, err := Format(p); s != nil || err != api.ErrFull {
			t.Errorf("Format: %v, %d", s, err)
		}
		if s, err := Open(p); s != nil || err != api.ErrNil {
			t.Errorf("Open: %v, %d", s, err)
		}
	}
}

// P12.1: nothing is committed.
func TestFormatCommitsNothing(t *testing.T) {
	d, p := fresh(t, 9)
	writes := d.Writes()
	s := format(t, p)
	if d.Writes() != writes {
		t.Errorf("%d writes", d.Writes()-writes)
	}
	p.Abort()
	if again, err := Open(p); again != nil || err != api.ErrForm {
		t.Errorf("Open: %v, %d", again, err)
	}
	if _, err := s.All(); err != api.ErrForm {
		t.Errorf("All: %d", err)
	}
	s = format(t, p)
	commit(t, s)
	holds(t, openOn(t, d), nil)
}

// openOn opens the store of a disk anew.
func openOn(t *testing.T, d *disk.Disk) *Store {
	t.Helper()
	s, err := Open(pagerOf(t, d))
	if s == nil || err != api.OK {
		t.Fatalf("Open: %v, %d", s, err)
	}
	return s
}

// P12.1: whatever stood on the pages, there are no keys.
func TestFormatOver(t *testing.T) {
	d, p := fresh(t, 60)
	for page := range 60 {
		p.Set(page, bytes.Repeat([]byte{255}, api.Page))
	}
	s := format(t, p)
	holds(t, s, nil)
	for i := range 200 {
		put(t, s, "key"+strconv.Itoa(i), "value")
	}
	commit(t, s)
	s = format(t, pagerOf(t, d))
	holds(t, s, nil)
	put(t, s, "a", "b")
	holds(t, s, map[string]string{"a": "b"})
}

// P12.1: the pager's error, and meta's.
func TestOpenWrong(t *testing.T) {
	d, p := fresh(t, 9)
	if s, err := Open(p); s != nil || err != api.ErrForm {
		t.Errorf("of noughts: %v, %d", s, err)
	}
	p.Set(0, bytes.Repeat([]byte{'E'}, api.Page))
	if s, err := Open(p); s != nil || err != api.ErrForm {
		t.Errorf("of other bytes: %v, %d", s, err)
	}
	commit(t, format(t, p))
	down(d)
	if s, err := Open(p); s != nil || err != api.ErrDown {
		t.Errorf("of a disk that is down: %v, %d", s, err)
	}
}

// P12.1: a key has the value that was put last.
func TestPutGet(t *testing.T) {
	s := storeOf(t, 9)
	put(t, s, "a", "one")
	put(t, s, "b", "")
	put(t, s, "\x00", "\x00\xff")
	put(t, s, "ab", "two")
	want := map[string]string{"a": "one", "b": "", "\x00": "\x00\xff", "ab": "two"}
	holds(t, s, want)
	put(t, s, "a", "another")
	put(t, s, "b", "three")
	put(t, s, "ab", "")
	put(t, s, "\x00", "\x00\xff")
	want["a"], want["b"], want["ab"] = "another", "three", ""
	holds(t, s, want)
}

// P12.1, R2: what is not there.
func TestGetNothing(t *testing.T) {
	s := storeOf(t, 9)
	put(t, s, "abc", "v")
	for _, key := range []string{"", "a", "ab", "abcd", "ABC", "abc\x00", strings.Repeat("a", 33), strings.Repeat("a", 1000)} {
		if value, ok, err := s.Get([]byte(key)); value != nil || ok || err != api.OK {
			t.Errorf("Get(%q): %q, %v, %d", key, value, ok, err)
		}
		remove(t, s, key, false)
	}
	if value, ok, err := s.Get(nil); value != nil || ok || err != api.OK {
		t.Errorf("Get of nil: %q, %v, %d", value, ok, err)
	}
	holds(t, s, map[string]string{"abc": "v"})
}

// P12.1: the bounds of keys and values.
func TestPutBounds(t *testing.T) {
	s := storeOf(t, 40)
	want := map[string]string{}
	for _, k := range []int{1, 2, 31, 32} {
		for _, v := range []int{0, 1, 119, 120} {
			key := strings.Repeat(string(rune('a'+v%7)), k)
			want[key] = long(v)
			put(t, s, key, long(v))
		}
	}
	holds(t, s, want)
	before := pagesSet(t, s.Pager)
	for _, c := range [][2]int{{0, 0}, {0, 5}, {33, 0}, {33, 120}, {1, 121}, {32, 121}, {0, 121}, {256, 1}, {257, 1}, {1, 256}, {1, 1000}} {
		if err := s.Put(make([]byte, c[0]), make([]byte, c[1])); err != api.ErrArg {
			t.Errorf("%d, %d bytes: %d", c[0], c[1], err)
		}
	}
	if err := s.Put(nil, nil); err != api.ErrArg {
		t.Errorf("nil: %d", err)
	}
	if !samePages(pagesSet(t, s.Pager), before) {
		t.Error("something changed")
	}
}

// P12.1
func TestDelete(t *testing.T) {
	s := storeOf(t, 9)
	for _, key := range []string{"a", "b", "c"} {
		put(t, s, key, "of "+key)
	}
	remove(t, s, "b", true)
	holds(t, s, map[string]string{"a": "of a", "c": "of c"})
	remove(t, s, "b", false)
	remove(t, s, "a", true)
	remove(t, s, "c", true)
	holds(t, s, nil)
	put(t, s, "b", "again")
	holds(t, s, map[string]string{"b": "again"})
}

// P12.1, R6: rising by bytes, not by what they mean as letters.
func TestAllRises(t *testing.T) {
	s := storeOf(t, 300)
	keys := []string{"\xff", "\xc3\xa9", "a", "aa", "a\x00", "B", "b", "ab", "\x7f", "\x80", "\x00", "\x00\x00", "10", "9"}
	want := map[string]string{}
	for i, key := range keys {
		for _, more := range []string{"", "x", "\xff\xff"} {
			put(t, s, key+more, strconv.Itoa(i))
			want[key+more] = strconv.Itoa(i)
		}
	}
	holds(t, s, want)
}

// P12.1: nothing is on the disk ahead of Commit, and what is aborted is as it was.
func TestThroughPager(t *testing.T) {
	d, p := fresh(t, 60)
	s := format(t, p)
	put(t, s, "a", "one")
	commit(t, s)
	writes := d.Writes()
	put(t, s, "a", "two")
	put(t, s, "b", "three")
	if d.Writes() != writes {
		t.Errorf("%d writes", d.Writes()-writes)
	}
	holds(t, s, map[string]string{"a": "two", "b": "three"})
	p.Abort()
	s, _ = Open(p)
	holds(t, s, map[string]string{"a": "one"})
	put(t, s, "c", "four")
	commit(t, s)
	holds(t, openOn(t, d), map[string]string{"a": "one", "c": "four"})
}

// P12.1: what asks sets no page; a Delete of what is not there neither.
func TestAskingSetsNothing(t *testing.T) {
	_, p := fresh(t, 60)
	s := format(t, p)
	for i := range 100 {
		put(t, s, "key"+strconv.Itoa(i), "value")
	}
	commit(t, s)
	s.Get([]byte("key7"))
	s.Get([]byte("none"))
	s.Delete([]byte("none"))
	s.All()
	s.Len()
	s.Meta()
	if got := p.Changed(); len(got) != 0 {
		t.Errorf("Changed: %v", got)
	}
}

// P12.1, R5: of what no call made.
func TestUnmade(t *testing.T) {
	for _, s := range []*Store{nil, {}, {&pager.Pager{}}} {
		if value, ok, err := s.Get([]byte("a")); value != nil || ok || err != api.ErrNil {
			t.Errorf("Get: %q, %v, %d", value, ok, err)
		}
		if err := s.Put([]byte("a"), nil); err != api.ErrNil {
			t.Errorf("Put: %d", err)
		}
		if there, err := s.Delete([]byte("a")); there || err != api.ErrNil {
			t.Errorf("Delete: %v, %d", there, err)
		}
		if all, err := s.All(); len(all) != 0 || err != api.ErrNil {
			t.Errorf("All: %v, %d", all, err)
		}
		if m := s.Meta(); s.Len() != 0 || m.Depth != 0 || m.Free != 0 || m.Next != 0 || m.Count != 0 || m.Dir != nil {
			t.Errorf("Len: %d, Meta: %v", s.Len(), m)
		}
	}
	for _, s := range []*Store{nil, {}} {
		if err := s.Put(nil, nil); err != api.ErrNil {
			t.Errorf("Put of nothing: %d", err)
		}
	}
}

// P12.1: the pager's error ends each call; a wrong argument is told ahead of it.
func TestDown(t *testing.T) {
	d, p := fresh(t, 60)
	s := format(t, p)
	for i := range 100 {
		put(t, s, "key"+strconv.Itoa(i), "value")
	}
	commit(t, s)
	down(d)
	for _, key := range []string{"key7", "none"} {
		if value, ok, err := s.Get([]byte(key)); value != nil || ok || err != api.ErrDown {
			t.Errorf("Get: %q, %v, %d", value, ok, err)
		}
		if err := s.Put([]byte(key), []byte("v")); err != api.ErrDown {
			t.Errorf("Put: %d", err)
		}
		if there, err := s.Delete([]byte(key)); there || err != api.ErrDown {
			t.Errorf("Delete: %v, %d", there, err)
		}
	}
	for _, c := range [][2]int{{0, 0}, {33, 0}, {1, 121}} {
		if err := s.Put(make([]byte, c[0]), make([]byte, c[1])); err != api.ErrArg {
			t.Errorf("Put of %d, %d bytes: %d", c[0], c[1], err)
		}
	}
	if all, err := s.All(); all != nil || err != api.ErrDown {
		t.Errorf("All: %v, %d", all, err)
	}
	if got := p.Changed(); len(got) != 0 {
		t.Errorf("Changed: %v", got)
	}
	d.Crash(nil)
	if s.Len() != 100 {
		t.Errorf("Len: %d", s.Len())
	}
}

// R3: what is handed in stays, and is not kept; what is answered may be changed.
func TestNothingShared(t *testing.T) {
	s := storeOf(t, 9)
	room := []byte("keyvaluerest")
	if err := s.Put(room[:3], room[3:8]); err != api.OK {
		t.Fatalf("Put: %d", err)
	}
	put(t, s, "other", "one")
	if string(room) != "keyvaluerest" {
		t.Errorf("changed: %q", room)
	}
	copy(room, "????????????")
	want := map[string]string{"key": "value", "other": "one"}
	holds(t, s, want)
	value, _, _ := s.Get([]byte("key"))
	_ = append(value, "!!!!!!!!!!!!!!!!"...)
	copy(value, "!!!!!")
	all, _ := s.All()
	for i := range all {
		before := string(all[1-i].Key) + string(all[1-i].Value)
		_ = append(all[i].Key, "!!!!!!!!!!!!!!!!"...)
		_ = append(all[i].Value, "!!!!!!!!!!!!!!!!"...)
		copy(all[i].Key, "!!!!!")
		if string(all[1-i].Key)+string(all[1-i].Value) != before {
			t.Error("two pairs share")
		}
	}
	m := s.Meta()
	m.Dir[0] = 99
	holds(t, s, want)
}

// P12.1: a store is as its pages are, by whatever hand.
func TestTwoStores(t *testing.T) {
	s := storeOf(t, 60)
	other, err := Open(s.Pager)
	if err != api.OK {
		t.Fatalf("Open: %d", err)
	}
	want := map[string]string{}
	for i := range 100 {
		key := "key" + strconv.Itoa(i)
		put(t, []*Store{s, other}[i%2], key, "value")
		want[key] = "value"
	}
	holds(t, s, want)
	holds(t, other, want)
}

// P12.3: a Meta beyond its count refuses.
func TestCountEnds(t *testing.T) {
	s := storeOf(t, 9)
	b, _ := s.Pager.Get(0)
	copy(b[14:18], []byte{255, 255, 255, 255})
	s.Set(0, b)
	if s.Len() != math.MaxUint32 {
		t.Fatalf("Len: %d", s.Len())
	}
	before := pagesSet(t, s.Pager)
	if err := s.Put([]byte("a"), nil); err == api.OK {
		t.Error("it went")
	}
	if !samePages(pagesSet(t, s.Pager), before) {
		t.Error("something changed")
	}
}

// P12.4: the same calls make the same pages.
func TestSameAgain(t *testing.T) {
	var pages []map[int][]byte
	for range 2 {
		s := storeOf(t, 200)
		for i := range 300 {
			put(t, s, "key"+strconv.Itoa(i), long(i%100))
		}
		pages = append(pages, pagesSet(t, s.Pager))
	}
	if !samePages(pages[0], pages[1]) || !slices.IsSorted([]int{0, len(pages[0])}) {
		t.Error("other pages")
	}
}
