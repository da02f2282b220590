package pager

import (
	"bytes"
	"math"
	"slices"
	"testing"

	"exchequer/api"
	"exchequer/disk"
	"exchequer/layout"
	"exchequer/redo"
	"exchequer/sector"
)

// sectors is how many the disks here have; that is 4 pages.
const sectors = 9

// full answers a page with c everywhere.
func full(c byte) []byte {
	return bytes.Repeat([]byte{c}, api.Page)
}

// opened answers a log on a disk of n sectors.
func opened(t *testing.T, n int) (*disk.Disk, *redo.Log) {
	t.Helper()
	d, err := disk.New(n)
	if err != api.OK {
		t.Fatalf("New(%d): %d", n, err)
	}
	if err := redo.Format(d); err != api.OK {
		t.Fatalf("Format: %d", err)
	}
	return d, reopen(t, d)
}

func reopen(t *testing.T, d *disk.Disk) *redo.Log {
	t.Helper()
	l, err := redo.Open(d)
	if err != api.OK {
		t.Fatalf("Open: %d", err)
	}
	return l
}

func pagerOf(t *testing.T, l *redo.Log) *Pager {
	t.Helper()
	p, err := New(l)
	if p == nil || err != api.OK {
		t.Fatalf("New: %v, %d", p, err)
	}
	return p
}

// fresh answers a disk and a pager on it.
func fresh(t *testing.T) (*disk.Disk, *Pager) {
	t.Helper()
	d, l := opened(t, sectors)
	return d, pagerOf(t, l)
}

func set(t *testing.T, p *Pager, page int, c byte) {
	t.Helper()
	if err := p.Set(page, full(c)); err != api.OK {
		t.Fatalf("Set(%d): %d", page, err)
	}
}

func commit(t *testing.T, p *Pager) {
	t.Helper()
	if err := p.Commit(); err != api.OK {
		t.Fatalf("Commit: %d", err)
	}
}

// holds looks whether the pages from 0 on are full of these bytes.
func holds(t *testing.T, p *Pager, cs ...byte) {
	t.Helper()
	for page, c := range cs {
		if b, err := p.Get(page); err != api.OK || !bytes.Equal(b, full(c)) {
			t.Errorf("page %d is not full of %d: %d, %v", page, c, err, b)
		}
	}
}

// waits looks whether these pages, and no others, are set.
func waits(t *testing.T, p *Pager, pages ...int) {
	t.Helper()
	if got := p.Changed(); !slices.Equal(got, pages) {
		t.Errorf("Changed: %v, not %v", got, pages)
	}
}

// P7.1
func TestNew(t *testing.T) {
	for n, pages := range map[int]int{3: 1, 4: 1, 9: 4, 10: 4, api.MaxSectors: 32767} {
		_, l := opened(t, n)
		p := pagerOf(t, l)
		if got := p.Pages(); got != pages {
			t.Errorf("Pages of %d sectors: %d, not %d", n, got, pages)
		}
		waits(t, p)
	}
}

// P7.1, R2: logs that redo.Open did not make.
func TestNewWrong(t *testing.T) {
	for _, l := range []*redo.Log{nil, {}, new(redo.Log)} {
		if p, err := New(l); p != nil || err != api.ErrArg {
			t.Errorf("New(%v): %v, %d", l, p, err)
		}
	}
	d, _ := disk.New(sectors)
	l, _ := redo.Open(d)
	if p, err := New(l); p != nil || err != api.ErrArg {
		t.Errorf("New of a log that was not opened: %v, %d", p, err)
	}
}

// P7.1: New reads and writes nothing: a disk that is down doesn't matter to it.
func TestNewDown(t *testing.T) {
	d, l := opened(t, sectors)
	d.Arm(0)
	d.Write(0, make([]byte, api.Sector))
	writes := d.Writes()
	p := pagerOf(t, l)
	if p.Pages() != 4 || d.Writes() != writes {
		t.Errorf("%d pages, %d writes", p.Pages(), d.Writes()-writes)
	}
}

// P7.1: a log of seq 0 is one too.
func TestNewSeqNought(t *testing.T) {
	d, _ := opened(t, sectors)
	mark, _ := sector.Pack(0, 0, make([]byte, api.Page))
	d.Write(layout.Mark(), mark)
	p := pagerOf(t, reopen(t, d))
	set(t, p, 1, 5)
	commit(t, p)
	holds(t, p, 0, 5)
}

// P7.1: what was set, and what the log has where nothing was.
func TestGet(t *testing.T) {
	_, p := fresh(t)
	holds(t, p, 0, 0, 0, 0)
	set(t, p, 0, 1)
	set(t, p, 3, 2)
	holds(t, p, 1, 0, 0, 2)
	set(t, p, 3, 3)
	holds(t, p, 1, 0, 0, 3)
	waits(t, p, 0, 3)
	commit(t, p)
	holds(t, p, 1, 0, 0, 3)
	set(t, p, 0, 0)
	holds(t, p, 0, 0, 0, 3)
}

// P7.1: what the log has is asked of it each time.
func TestGetOfLog(t *testing.T) {
	_, l := opened(t, sectors)
	p := pagerOf(t, l)
	set(t, p, 1, 7)
	holds(t, p, 0, 7, 0)
	if err := l.Commit([]api.Image{{Page: 1, Data: full(8)}, {Page: 2, Data: full(9)}}); err != api.OK {
		t.Fatalf("Commit: %d", err)
	}
	holds(t, p, 0, 7, 9)
	p.Abort()
	holds(t, p, 0, 8, 9)
}

// P7.1, R2: pages that are not there, and an answer beside an error.
func TestGetWrong(t *testing.T) {
	_, p := fresh(t)
	for _, page := range []int{-1, 4, 5, math.MinInt, math.MaxInt} {
		if b, err := p.Get(page); b != nil || err != api.ErrArg {
			t.Errorf("Get(%d): %v, %d", page, b, err)
		}
	}
}

// P7.1: the log's errors; what was set needs no disk.
func TestGetDown(t *testing.T) {
	d, p := fresh(t)
	set(t, p, 1, 4)
	d.Arm(0)
	d.Write(0, make([]byte, api.Sector))
	if b, err := p.Get(0); b != nil || err != api.ErrDown {
		t.Errorf("Get(0): %v, %d", b, err)
	}
	if b, err := p.Get(1); !bytes.Equal(b, full(4)) || err != api.OK {
		t.Errorf("Get(1): %v, %d", b, err)
	}
	if b, err := p.Get(4); b != nil || err != api.ErrArg {
		t.Errorf("Get(4): %v, %d", b, err)
	}
	set(t, p, 2, 5)
	waits(t, p, 1, 2)
}

// P7.1: what may not be set changes nothing.
func TestSetWrong(t *testing.T) {
	_, p := fresh(t)
	set(t, p, 2, 6)
	for _, page := range []int{-1, 4, 5, math.MinInt, math.MaxInt} {
		if err := p.Set(page, full(1)); err != api.ErrArg {
			t.Errorf("Set(%d): %d", page, err)
		}
	}
	for _, n := range []int{0, 1, api.Page - 1, api.Page + 1, api.Sector} {
		for _, page := range []int{1, 2, 4} {
			if err := p.Set(page, make([]byte, n)); err != api.ErrArg {
				t.Errorf("Set(%d) of %d bytes: %d", page, n, err)
			}
		}
	}
	if err := p.Set(1, nil); err != api.ErrArg {
		t.Errorf("Set of nil: %d", err)
	}
	waits(t, p, 2)
	holds(t, p, 0, 0, 6, 0)
}

// P7.1: Set writes nothing; the edges of what pages there are.
func TestSetEdges(t *testing.T) {
	d, p := fresh(t)
	writes := d.Writes()
	set(t, p, 3, 1)
	set(t, p, 0, 2)
	waits(t, p, 0, 3)
	if d.Writes() != writes || len(d.Pending()) != 0 {
		t.Errorf("%d writes", d.Writes()-writes)
	}
}

// P7.1: rising, each once, whatever the order.
func TestChanged(t *testing.T) {
	_, l := opened(t, 101)
	p := pagerOf(t, l)
	waits(t, p)
	var want []int
	for i := range 50 {
		set(t, p, i*37%50, 1)
		set(t, p, i*37%50, 2)
		want = append(want, i)
	}
	waits(t, p, want...)
	p.Abort()
	for _, page := range []int{33, 7, 49, 0, 7, 12} {
		set(t, p, page, 3)
	}
	waits(t, p, 0, 7, 12, 33, 49)
}

// P7.1: the pages go to the log together, rising.
func TestCommit(t *testing.T) {
	d, l := opened(t, sectors)
	p := pagerOf(t, l)
	for _, page := range []int{3, 0, 2} {
		set(t, p, page, byte(10+page))
	}
	writes := d.Writes()
	commit(t, p)
	if got := d.Writes() - writes; got != 7 || l.Seq() != 2 {
		t.Errorf("%d writes, seq %d", got, l.Seq())
	}
	for i, page := range []int{0, 2, 3} {
		at, _ := layout.Slot(sectors, i)
		b, _ := d.Read(at)
		if got, _, data, err := sector.Unpack(b); err != api.OK || got != page || !bytes.Equal(data, full(byte(10+page))) {
			t.Errorf("slot %d has page %d, not %d (%d)", i, got, page, err)
		}
	}
	waits(t, p)
	holds(t, p, 10, 0, 12, 13)
	d.Crash(nil)
	holds(t, pagerOf(t, reopen(t, d)), 10, 0, 12, 13)
}

// P7.1: all pages at once, and one after the other.
func TestCommitAll(t *testing.T) {
	d, p := fresh(t)
	for page := range 4 {
		set(t, p, page, byte(1+page))
	}
	commit(t, p)
	set(t, p, 1, 9)
	waits(t, p, 1)
	commit(t, p)
	waits(t, p)
	holds(t, pagerOf(t, reopen(t, d)), 1, 9, 3, 4)
}

// P7.1: without any page nothing is done.
func TestCommitNothing(t *testing.T) {
	d, l := opened(t, sectors)
	p := pagerOf(t, l)
	writes := d.Writes()
	commit(t, p)
	set(t, p, 1, 2)
	p.Abort()
	commit(t, p)
	if d.Writes() != writes || l.Seq() != 1 {
		t.Errorf("%d writes, seq %d", d.Writes()-writes, l.Seq())
	}
}

// P7.1: with an error all that was set stays, and may be committed once the disk is up.
func TestCommitDown(t *testing.T) {
	for fuse := range 5 {
		d, p := fresh(t)
		set(t, p, 2, 1)
		commit(t, p)
		set(t, p, 2, 5)
		set(t, p, 1, 6)
		d.Arm(fuse)
		if err := p.Commit(); err != api.ErrDown {
			t.Fatalf("Commit: %d", err)
		}
		waits(t, p, 1, 2)
		for _, page := range []int{1, 2} {
			if b, err := p.Get(page); err != api.OK || !bytes.Equal(b, full(byte(7-page))) {
				t.Errorf("Get(%d): %v, %d", page, b, err)
			}
		}
		if err := p.Commit(); err != api.ErrDown {
			t.Errorf("Commit again: %d", err)
		}
		d.Crash(nil)
		waits(t, p, 1, 2)
		commit(t, p)
		waits(t, p)
		holds(t, p, 0, 6, 5, 0)
		holds(t, pagerOf(t, reopen(t, d)), 0, 6, 5, 0)
	}
}

// P7.1: a log at its last seq refuses, and nothing is lost.
func TestCommitLastSeq(t *testing.T) {
	d, _ := opened(t, sectors)
	mark, _ := sector.Pack(0, 1<<62, make([]byte, api.Page))
	d.Write(layout.Mark(), mark)
	p := pagerOf(t, reopen(t, d))
	set(t, p, 1, 5)
	if err := p.Commit(); err != api.ErrArg {
		t.Errorf("Commit: %d", err)
	}
	waits(t, p, 1)
	holds(t, p, 0, 5)
	p.Abort()
	waits(t, p)
	holds(t, p, 0, 0)
}

// P7.1, P7.2: what was aborted is as it was.
func TestAbort(t *testing.T) {
	d, p := fresh(t)
	set(t, p, 1, 1)
	p.Abort()
	waits(t, p)
	holds(t, p, 0, 0, 0, 0)
	set(t, p, 1, 1)
	set(t, p, 2, 2)
	commit(t, p)
	writes := d.Writes()
	set(t, p, 1, 8)
	set(t, p, 3, 9)
	p.Abort()
	p.Abort()
	waits(t, p)
	holds(t, p, 0, 1, 2, 0)
	commit(t, p)
	if d.Writes() != writes {
		t.Errorf("%d writes", d.Writes()-writes)
	}
	set(t, p, 3, 4)
	waits(t, p, 3)
	commit(t, p)
	holds(t, pagerOf(t, reopen(t, d)), 0, 1, 2, 4)
}

// P7.2: behind a Commit that went down before its mark.
func TestAbortDown(t *testing.T) {
	d, p := fresh(t)
	set(t, p, 1, 1)
	commit(t, p)
	set(t, p, 1, 2)
	set(t, p, 2, 3)
	d.Arm(2)
	if err := p.Commit(); err != api.ErrDown {
		t.Fatalf("Commit: %d", err)
	}
	p.Abort()
	waits(t, p)
	d.Crash(nil)
	holds(t, p, 0, 1, 0, 0)
	holds(t, pagerOf(t, reopen(t, d)), 0, 1, 0, 0)
}

// P7.1, R5: of what no call made.
func TestUnmade(t *testing.T) {
	for _, p := range []*Pager{nil, {}, new(Pager)} {
		for _, page := range []int{-1, 0, 1} {
			if b, err := p.Get(page); b != nil || err != api.ErrNil {
				t.Errorf("Get(%d): %v, %d", page, b, err)
			}
			if err := p.Set(page, full(1)); err != api.ErrNil {
				t.Errorf("Set(%d): %d", page, err)
			}
		}
		if err := p.Set(0, nil); err != api.ErrNil {
			t.Errorf("Set of nil: %d", err)
		}
		if err := p.Commit(); err != api.ErrNil {
			t.Errorf("Commit: %d", err)
		}
		p.Abort()
		if len(p.Changed()) != 0 || p.Pages() != 0 {
			t.Errorf("Changed: %v, Pages: %d", p.Changed(), p.Pages())
		}
	}
}

// R3: bytes and lists that are handed in or out may be changed.
func TestNothingShared(t *testing.T) {
	_, p := fresh(t)
	room := append(full(1), full(2)...)
	if err := p.Set(1, room[:api.Page]); err != api.OK {
		t.Fatalf("Set: %d", err)
	}
	room[0] = 9
	holds(t, p, 0, 1)
	b, _ := p.Get(1)
	b[3] = 9
	_ = append(b, 9)
	holds(t, p, 0, 1)
	if room[0] != 9 || room[3] != 1 || !bytes.Equal(room[api.Page:], full(2)) {
		t.Error("what was handed in is changed")
	}
	set(t, p, 2, 3)
	p.Changed()[0] = 99
	waits(t, p, 1, 2)
	commit(t, p)
	b, _ = p.Get(1)
	b[0] = 9
	holds(t, p, 0, 1, 3)
}

// P7.1: two pagers of one log have what they set for themselves.
func TestTwoPagers(t *testing.T) {
	_, l := opened(t, sectors)
	p, q := pagerOf(t, l), pagerOf(t, l)
	set(t, p, 1, 1)
	set(t, q, 1, 2)
	set(t, q, 2, 3)
	waits(t, p, 1)
	waits(t, q, 1, 2)
	commit(t, q)
	holds(t, p, 0, 1, 3)
	p.Abort()
	holds(t, p, 0, 2, 3)
}
