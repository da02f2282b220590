package pager

import (
	"bytes"
	"testing"

	"exchequer/api"
	"exchequer/disk"
)

// life is a pager beside what its pages must be full of.
type life struct {
	d    *disk.Disk
	p    *Pager
	old  [4]byte      // what was committed
	set  map[int]byte // what was set since
	seed uint32
}

// below answers a number from 0 to n less 1; the same numbers in each run.
func (l *life) below(n int) int {
	l.seed = l.seed*1664525 + 1013904223
	return int(l.seed>>8) % n
}

// now answers what the pages must be full of.
func (l *life) now() []byte {
	cs := l.old
	for page, c := range l.set {
		cs[page] = c
	}
	return cs[:]
}

func (l *life) put(t *testing.T) {
	page, c := l.below(4), byte(l.below(250))
	set(t, l.p, page, c)
	l.set[page] = c
}

// commit commits, half of the times with a disk that may go down at one of its writes, and comes up.
func (l *life) commit(t *testing.T) {
	will := [4]byte(l.now())
	if l.below(2) == 0 {
		l.d.Arm(l.below(10))
	}
	err := l.p.Commit()
	l.d.Arm(-1)
	if err == api.OK {
		l.old, l.set = will, map[int]byte{}
		return
	}
	if err != api.ErrDown {
		t.Fatalf("Commit: %d", err)
	}
	l.crash(t, will)
}

// crash lets the power go, and looks whether the pages are then those of before or those of will.
func (l *life) crash(t *testing.T, will [4]byte) {
	var keep []int
	for i := range l.d.Pending() {
		if l.below(2) == 0 {
			keep = append(keep, i)
		}
	}
	l.d.Crash(keep)
	l.p, l.set = pagerOf(t, reopen(t, l.d)), map[int]byte{}
	var got [4]byte
	for page := range got {
		b, err := l.p.Get(page)
		if err != api.OK || !bytes.Equal(b, full(b[0])) {
			t.Fatalf("page %d: %d, %v", page, err, b)
		}
		got[page] = b[0]
	}
	if got != l.old && got != will {
		t.Fatalf("%v is neither %v nor %v", got, l.old, will)
	}
	l.old = got
}

func (l *life) look(t *testing.T) {
	t.Helper()
	holds(t, l.p, l.now()...)
	var pages []int
	for page := range 4 {
		if _, ok := l.set[page]; ok {
			pages = append(pages, page)
		}
	}
	waits(t, l.p, pages...)
}

// P7.1, P7.2: many steps, held against plain pages.
func TestLife(t *testing.T) {
	d, p := fresh(t)
	l := &life{d: d, p: p, set: map[int]byte{}, seed: 4}
	for range 5000 {
		switch l.below(8) {
		case 0:
			l.p.Abort()
			l.set = map[int]byte{}
		case 1, 2:
			l.commit(t)
		case 3:
			if l.below(4) == 0 {
				l.crash(t, l.old)
			}
		default:
			l.put(t)
		}
		l.look(t)
		if t.Failed() {
			t.FailNow()
		}
	}
}
