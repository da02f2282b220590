package ext

import (
	"bytes"
	"maps"
	"slices"
	"testing"

	"exchequer/api"
	"exchequer/bucket"
	"exchequer/dir"
	"exchequer/hash"
	"exchequer/meta"
	"exchequer/pager"
)

// lying is how a store lies on its pages, as P12.2 tells it, looked at without the store.
type lying struct {
	t    *testing.T
	p    *pager.Pager
	m    api.Meta
	used map[int]string // what each page is for
	keys map[string]string
	free int // how many pages are free
}

// lies looks whether the pages are just those of a store of these keys with their values.
func lies(t *testing.T, p *pager.Pager, want map[string]string) *lying {
	t.Helper()
	l := &lying{t: t, p: p, used: map[int]string{0: "the Meta"}, keys: map[string]string{}}
	m, err := meta.Parse(l.page(0))
	if err != api.OK {
		t.Fatalf("no Meta: %d", err)
	}
	l.m = m
	if len(m.Dir) != dir.Need(m.Depth) {
		t.Fatalf("%d pages of a directory of depth %d", len(m.Dir), m.Depth)
	}
	for _, page := range m.Dir {
		l.claim(page, "the directory")
	}
	l.buckets()
	l.freed()
	if len(l.used) != m.Next {
		t.Fatalf("%d pages are in use, but %d were used", len(l.used), m.Next)
	}
	if !maps.Equal(l.keys, want) || m.Count != len(want) {
		t.Fatalf("%d keys, counted %d, not those %d", len(l.keys), m.Count, len(want))
	}
	return l
}

func (l *lying) page(page int) []byte {
	l.t.Helper()
	data, err := l.p.Get(page)
	if err != api.OK {
		l.t.Fatalf("page %d: %d", page, err)
	}
	return data
}

// claim looks whether a page is in no other use.
func (l *lying) claim(page int, what string) {
	l.t.Helper()
	if page < 1 || page >= l.p.Pages() || page >= l.m.Next {
		l.t.Fatalf("page %d of %s is none that was used", page, what)
	}
	if other, ok := l.used[page]; ok {
		l.t.Fatalf("page %d is of %s, and of %s", page, other, what)
	}
	l.used[page] = what
}

// buckets goes through the slots of the directory.
func (l *lying) buckets() {
	l.t.Helper()
	slots := map[int][]int{}
	for slot := range 1 << l.m.Depth {
		page, err := dir.Get(l.p, l.m, slot)
		if err != api.OK {
			l.t.Fatalf("slot %d: %d", slot, err)
		}
		slots[page] = append(slots[page], slot)
	}
	for page, own := range slots {
		l.chain(page, own)
	}
}

// chain looks at the buckets of some slots.
func (l *lying) chain(page int, slots []int) {
	l.t.Helper()
	var depth int
	for first := true; page != 0; first = false {
		l.claim(page, "a bucket")
		b, err := bucket.Parse(l.page(page))
		if err != api.OK {
			l.t.Fatalf("page %d is no bucket: %d", page, err)
		}
		if first {
			depth = b.Depth
			l.share(depth, slots)
		}
		switch {
		case b.Depth != depth:
			l.t.Fatalf("page %d has depth %d, its first one %d", page, b.Depth, depth)
		case b.Next != 0 && depth != api.MaxDepth:
			l.t.Fatalf("page %d of depth %d is followed", page, depth)
		case !first && len(b.Pairs) == 0:
			l.t.Fatalf("page %d follows, and has no keys", page)
		}
		l.pairs(b, slots[0])
		page = b.Next
	}
}

// share looks whether slots are all those whose low bits are the same, as many bits as depth.
func (l *lying) share(depth int, slots []int) {
	l.t.Helper()
	if depth > l.m.Depth || len(slots) != 1<<(l.m.Depth-depth) {
		l.t.Fatalf("%d slots of depth %d, in a directory of %d", len(slots), depth, l.m.Depth)
	}
	for _, slot := range slots {
		if slot%(1<<depth) != slots[0] {
			l.t.Fatalf("slots %v of depth %d", slots, depth)
		}
	}
}

func (l *lying) pairs(b api.Bucket, slot int) {
	l.t.Helper()
	for _, pair := range b.Pairs {
		if got := hash.Slot(hash.Of(pair.Key), b.Depth); got != slot {
			l.t.Fatalf("%q is of slot %d, not %d", pair.Key, got, slot)
		}
		if _, twice := l.keys[string(pair.Key)]; twice {
			l.t.Fatalf("%q is there twice", pair.Key)
		}
		l.keys[string(pair.Key)] = string(pair.Value)
	}
}

// freed goes through the pages that are free.
func (l *lying) freed() {
	l.t.Helper()
	for page := l.m.Free; page != 0; l.free++ {
		l.claim(page, "none")
		b := l.page(page)
		page = int(b[0])<<24 | int(b[1])<<16 | int(b[2])<<8 | int(b[3])
	}
}

// answers looks whether a store tells just these keys with their values.
func answers(t *testing.T, s *Store, want map[string]string) {
	t.Helper()
	all, err := s.All()
	if err != api.OK || len(all) != len(want) || s.Len() != len(want) {
		t.Fatalf("All: %d of %d, Len %d, %d", len(all), len(want), s.Len(), err)
	}
	for i, key := range slices.Sorted(maps.Keys(want)) {
		if string(all[i].Key) != key || string(all[i].Value) != want[key] {
			t.Fatalf("All: place %d has %q, %q, not %q, %q", i, all[i].Key, all[i].Value, key, want[key])
		}
		value, ok, err := s.Get([]byte(key))
		if string(value) != want[key] || !ok || err != api.OK {
			t.Fatalf("Get(%q): %q, %v, %d", key, value, ok, err)
		}
	}
}

// holds looks at all of a store: how it lies, and what it answers, opened again too.
func holds(t *testing.T, s *Store, want map[string]string) *lying {
	t.Helper()
	l := lies(t, s.Pager, want)
	if !meta.Same(s.Meta(), l.m) {
		t.Fatalf("Meta: %v, not %v", s.Meta(), l.m)
	}
	answers(t, s, want)
	again, err := Open(s.Pager)
	if err != api.OK {
		t.Fatalf("Open: %d", err)
	}
	answers(t, again, want)
	return l
}

// pagesSet answers what was set in a pager.
func pagesSet(t *testing.T, p *pager.Pager) map[int][]byte {
	t.Helper()
	set := map[int][]byte{}
	for _, page := range p.Changed() {
		data, err := p.Get(page)
		if err != api.OK {
			t.Fatalf("page %d: %d", page, err)
		}
		set[page] = data
	}
	return set
}

func samePages(a, b map[int][]byte) bool {
	return maps.EqualFunc(a, b, bytes.Equal)
}
