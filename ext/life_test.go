package ext

import (
	"maps"
	"strconv"
	"testing"

	"exchequer/api"
	"exchequer/disk"
)

// life is a store beside the table that it must be as.
type life struct {
	t     *testing.T
	d     *disk.Disk
	s     *Store
	old   map[string]string // what was committed
	now   map[string]string
	names []string // the keys that come in
	seed  uint32
}

// lifeOn answers a life on so many pages, with a store without keys that is committed.
func lifeOn(t *testing.T, pages int, names []string) *life {
	t.Helper()
	d, p := fresh(t, pages)
	l := &life{t: t, d: d, s: format(t, p), old: map[string]string{}, now: map[string]string{}, names: names, seed: 12}
	commit(t, l.s)
	return l
}

// below answers a number from 0 to n less 1; the same numbers in each run.
func (l *life) below(n int) int {
	l.seed = l.seed*1664525 + 1013904223
	return int(l.seed>>8) % n
}

func (l *life) name() string { return l.names[l.below(len(l.names))] }

func (l *life) value() string {
	return long([]int{0, 1, 20, 60, 119, 120}[l.below(6)])
}

// put puts a key; where there is no room the store is what was committed.
func (l *life) put() {
	key, value := l.name(), l.value()
	switch err := l.s.Put([]byte(key), []byte(value)); err {
	case api.OK:
		l.now[key] = value
	case api.ErrFull:
		l.abort()
	default:
		l.t.Fatalf("Put(%q): %d", key, err)
	}
}

func (l *life) remove() {
	key := l.name()
	_, want := l.now[key]
	remove(l.t, l.s, key, want)
	delete(l.now, key)
}

func (l *life) abort() {
	l.s.Abort()
	s, err := Open(l.s.Pager)
	if err != api.OK {
		l.t.Fatalf("Open: %d", err)
	}
	l.s, l.now = s, maps.Clone(l.old)
}

// commit commits, half of the times with a disk that may go down at one of its writes, and comes up.
func (l *life) commit() {
	if l.below(2) == 0 {
		l.d.Arm(l.below(2*len(l.s.Changed()) + 2))
	}
	err := l.s.Commit()
	l.d.Arm(-1)
	switch err {
	case api.OK:
		l.old = maps.Clone(l.now)
	case api.ErrDown:
		l.crash()
	case api.ErrFull:
		l.abort()
	default:
		l.t.Fatalf("Commit: %d", err)
	}
}

// crash lets the power go; the store must be then as before, or as it was to be.
func (l *life) crash() {
	var keep []int
	for i := range l.d.Pending() {
		if l.below(2) == 0 {
			keep = append(keep, i)
		}
	}
	l.d.Crash(keep)
	l.s = openOn(l.t, l.d)
	keys := map[string]string{}
	all, err := l.s.All()
	if err != api.OK {
		l.t.Fatalf("All: %d", err)
	}
	for _, pair := range all {
		keys[string(pair.Key)] = string(pair.Value)
	}
	if !maps.Equal(keys, l.old) && !maps.Equal(keys, l.now) {
		l.t.Fatalf("%d keys, neither those before nor those behind", len(keys))
	}
	l.old, l.now = keys, maps.Clone(keys)
}

func (l *life) live(steps int) {
	for i := range steps {
		switch n := l.below(40); {
		case n < 22:
			l.put()
		case n < 36:
			l.remove()
		case n < 37:
			l.abort()
		default:
			l.commit()
		}
		if i%50 == 0 {
			holds(l.t, l.s, l.now)
		}
	}
	holds(l.t, l.s, l.now)
}

// short answers n keys that are short.
func short(n int) []string {
	var keys []string
	for i := range n {
		keys = append(keys, strconv.Itoa(i))
	}
	return keys
}

// P12.1, P12.2, P12.4: many steps, held against a table.
func TestLife(t *testing.T) {
	for _, c := range []struct {
		pages, steps int
		names        []string
	}{
		{4, 1000, short(10)},
		{30, 2000, short(40)},
		{200, 3000, short(400)},
		{1200, 4000, keysOf("c", 40, 9, 10)},
		{1500, 8000, append(keysOf("c", 30, 1023, 10), short(300)...)},
		{60, 3000, append(keysOf("c", 12, 1, 10), keysOf("d", 12, 0, 10)...)},
	} {
		lifeOn(t, c.pages, c.names).live(c.steps)
	}
}

// R2: a call that the disk's going down ends changes nothing, whatever of the pages is at hand.
func TestDownInBetween(t *testing.T) {
	names := append(short(500), keysOf("c", 20, 33, 10)...)
	var done, failed int
	for round := range 150 {
		l := lifeOn(t, 1300, names)
		l.seed += uint32(round)
		for range 5 * round {
			l.put()
		}
		commit(t, l.s)
		l.old = maps.Clone(l.now)
		for range l.below(30) {
			l.put()
			l.remove()
		}
		down(l.d)
		for range 40 {
			if l.tryDown() {
				done++
			} else {
				failed++
			}
		}
		l.d.Crash(nil)
		holds(t, l.s, l.now)
		l.abort()
		holds(t, l.s, l.now)
	}
	if done == 0 || failed == 0 {
		t.Errorf("%d calls were done, %d failed", done, failed)
	}
}

// tryDown does a call while the disk is down; false, if it went wrong, and nothing changed.
func (l *life) tryDown() bool {
	l.t.Helper()
	before := pagesSet(l.t, l.s.Pager)
	key, value := l.name(), l.value()
	puts := l.below(2) == 0
	var err api.Errno
	var there bool
	if puts {
		err = l.s.Put([]byte(key), []byte(value))
	} else {
		there, err = l.s.Delete([]byte(key))
	}
	if err != api.OK {
		if err != api.ErrDown || there || !samePages(pagesSet(l.t, l.s.Pager), before) {
			l.t.Fatalf("%d, and pages changed", err)
		}
		return false
	}
	if puts {
		l.now[key] = value
	} else {
		delete(l.now, key)
	}
	return true
}
