package redo

import (
	"bytes"
	"fmt"
	"slices"
	"testing"

	"exchequer/api"
	"exchequer/disk"
)

// history is what is committed in turn to a disk with 4 pages.
var history = [][]api.Image{
	{image(0, 10), image(1, 11), image(2, 12), image(3, 13)},
	{image(2, 22), image(0, 20)},
	{image(3, 33), image(2, 32), image(1, 31)},
	{image(1, 41)},
}

// pagesAfter answers what the pages are full of behind the first n commits.
func pagesAfter(n int) []byte {
	pages := make([]byte, 4)
	for _, images := range history[:n] {
		for _, image := range images {
			pages[image.Page] = image.Data[0]
		}
	}
	return pages
}

// committed answers a disk to which the first n commits were made, and its log.
func committed(t *testing.T, n int) (*disk.Disk, *Log) {
	t.Helper()
	d := formatted(t, 9)
	l := open(t, d)
	for _, images := range history[:n] {
		commit(t, l, images...)
	}
	return d, l
}

// subset answers which of n places the bits of set tell.
func subset(n, set int) []int {
	var places []int
	for i := range n {
		if set>>i&1 == 1 {
			places = append(places, i)
		}
	}
	return places
}

// found answers what the pages of a log are full of.
func found(t *testing.T, l *Log) []byte {
	t.Helper()
	var pages []byte
	for page := range l.Pages() {
		b, err := l.Load(page)
		if err != api.OK || !bytes.Equal(b, full(b[0])) {
			t.Fatalf("page %d: %d, %v", page, err, b)
		}
		pages = append(pages, b[0])
	}
	return pages
}

// openedTwice opens a log, and once more; both have the same.
func openedTwice(t *testing.T, d *disk.Disk) ([]byte, int) {
	t.Helper()
	l := open(t, d)
	pages, all := found(t, l), sectorsOf(t, d)
	again := open(t, d)
	if got := found(t, again); !slices.Equal(got, pages) || again.Seq() != l.Seq() {
		t.Fatalf("opened once more: %v, seq %d, not %v, seq %d", got, again.Seq(), pages, l.Seq())
	}
	stands(t, d, all)
	return pages, l.Seq()
}

// isOneOf looks whether what a crash left is that of before commits, or of one more if done or in flight.
func isOneOf(t *testing.T, d *disk.Disk, before int, mayBefore, mayAfter bool) {
	t.Helper()
	pages, seq := openedTwice(t, d)
	switch {
	case mayBefore && slices.Equal(pages, pagesAfter(before)) && seq == firstSeq+before:
	case mayAfter && slices.Equal(pages, pagesAfter(before+1)) && seq == firstSeq+before+1:
	default:
		t.Fatalf("pages %v, seq %d", pages, seq)
	}
}

// crashed lets the disk go down at the n-th write of commit number before, and keeps a set of what is not safe; false, if it does not go down.
func crashed(t *testing.T, before, n, set int) (d *disk.Disk, marked, down bool) {
	t.Helper()
	d, l := committed(t, before)
	d.Arm(n)
	down = l.Commit(history[before]) == api.ErrDown
	marked = l.Seq() == firstSeq+before+1
	d.Crash(subset(len(d.Pending()), set))
	return d, marked, down
}

// P6.4: at each write, with each set of what is kept.
func TestCrashInCommit(t *testing.T) {
	for before, images := range history {
		for n := range 2*len(images) + 2 {
			for set := range 1 << len(images) {
				t.Run(fmt.Sprint(before, n, set), func(t *testing.T) {
					d, marked, down := crashed(t, before, n, set)
					if wantDown := n < 2*len(images)+1; down != wantDown {
						t.Fatalf("down: %v", down)
					}
					isOneOf(t, d, before, !marked, marked)
				})
			}
		}
	}
}

// P6.4: also while it is opened again.
func TestCrashInOpen(t *testing.T) {
	for before, images := range history {
		for n := range 2*len(images) + 2 {
			for set := range 1 << len(images) {
				for m := range len(images) {
					for other := range 1 << m {
						d, marked, _ := crashed(t, before, n, set)
						d.Arm(m)
						l, err := Open(d)
						if (l == nil) != (err == api.ErrDown) {
							t.Fatalf("Open: %v, %d", l, err)
						}
						d.Crash(subset(len(d.Pending()), other))
						isOneOf(t, d, before, !marked, marked)
					}
				}
			}
		}
	}
}

// P6.4: a log whose commit failed can be used once the power is back.
func TestCommitAfterCrash(t *testing.T) {
	for before, images := range history[:3] {
		for n := range 2*len(images) + 1 {
			for set := range 1 << len(images) {
				d, _, _ := crashed(t, before, n, set)
				l := open(t, d)
				want := found(t, l)
				commit(t, l, image(1, 99))
				want[1] = 99
				if pages, _ := openedTwice(t, d); !slices.Equal(pages, want) {
					t.Fatalf("pages %v, not %v", pages, want)
				}
			}
		}
	}
}

// P6.4: a disk that goes down while it is made ready is no log, or an empty one.
func TestCrashInFormat(t *testing.T) {
	d := newDisk(t, 9)
	d.Arm(0)
	Format(d)
	d.Crash(nil)
	if l, err := Open(d); l != nil || err != api.ErrForm {
		t.Errorf("Open: %v, %d", l, err)
	}
	d.Arm(1)
	if err := Format(d); err != api.OK {
		t.Errorf("Format: %d", err)
	}
	d.Crash(nil)
	if pages, seq := openedTwice(t, d); !slices.Equal(pages, make([]byte, 4)) || seq != firstSeq {
		t.Errorf("pages %v, seq %d", pages, seq)
	}
}

// steps answers numbers below n that look like thrown ones, the same at each run.
func steps(seed uint32) func(n int) int {
	return func(n int) int {
		seed = seed*1664525 + 1013904223
		return int(seed>>8) % n
	}
}

// someImages answers images of unlike pages below n, and what the pages are full of behind them.
func someImages(next func(n int) int, pages []byte) ([]api.Image, []byte) {
	after := slices.Clone(pages)
	var images []api.Image
	seen := map[int]bool{}
	for range 1 + next(len(pages)) {
		if page := next(len(pages)); !seen[page] {
			seen[page] = true
			after[page] = byte(next(256))
			images = append(images, image(page, after[page]))
		}
	}
	return images, after
}

// P6.2, P6.4: a long life with many crashes, held against pages in memory.
func TestLongLife(t *testing.T) {
	next := steps(7)
	d := formatted(t, 32)
	l := open(t, d)
	pages, seq := make([]byte, 15), firstSeq
	for range 3000 {
		images, after := someImages(next, pages)
		if next(2) == 0 {
			d.Arm(next(2*len(images) + 1))
		}
		err := l.Commit(images)
		if l.Seq() > seq {
			pages, seq = after, l.Seq()
		} else if err == api.OK {
			t.Fatal("done, but not counted")
		}
		for err == api.ErrDown {
			d.Crash(subset(len(d.Pending()), next(1<<16)))
			d.Arm(next(40) - 1)
			l, err = Open(d)
		}
		d.Arm(-1)
		if got := found(t, l); !slices.Equal(got, pages) || l.Seq() != seq {
			t.Fatalf("pages %v, not %v; seq %d, not %d", got, pages, l.Seq(), seq)
		}
	}
}
