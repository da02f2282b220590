package redo

import (
	"bytes"
	"math"
	"slices"
	"testing"

	"exchequer/api"
	"exchequer/disk"
	"exchequer/sector"
)

// full answers a page with c everywhere.
func full(c byte) []byte {
	return bytes.Repeat([]byte{c}, api.Page)
}

// image answers a page full of c.
func image(page int, c byte) api.Image {
	return api.Image{Page: page, Data: full(c)}
}

func newDisk(t *testing.T, n int) *disk.Disk {
	t.Helper()
	d, err := disk.New(n)
	if err != api.OK {
		t.Fatalf("New(%d): %d", n, err)
	}
	return d
}

// formatted answers a disk of n sectors that Format made ready.
func formatted(t *testing.T, n int) *disk.Disk {
	t.Helper()
	d := newDisk(t, n)
	if err := Format(d); err != api.OK {
		t.Fatalf("Format: %d", err)
	}
	return d
}

func open(t *testing.T, d *disk.Disk) *Log {
	t.Helper()
	l, err := Open(d)
	if l == nil || err != api.OK {
		t.Fatalf("Open: %v, %d", l, err)
	}
	return l
}

func commit(t *testing.T, l *Log, images ...api.Image) {
	t.Helper()
	if err := l.Commit(images); err != api.OK {
		t.Fatalf("Commit: %d", err)
	}
}

// packed answers the sector of a page full of c.
func packed(t *testing.T, page, seq int, c byte) []byte {
	t.Helper()
	b, err := sector.Pack(page, seq, full(c))
	if err != api.OK {
		t.Fatalf("Pack(%d, %d): %d", page, seq, err)
	}
	return b
}

// lay writes b at a sector and makes it safe.
func lay(t *testing.T, d *disk.Disk, at int, b []byte) {
	t.Helper()
	if err := d.Write(at, b); err != api.OK {
		t.Fatalf("Write(%d): %d", at, err)
	}
	if err := d.Flush(); err != api.OK {
		t.Fatalf("Flush: %d", err)
	}
}

// sectorsOf answers all that stands on a disk.
func sectorsOf(t *testing.T, d *disk.Disk) [][]byte {
	t.Helper()
	var all [][]byte
	for i := range d.Size() {
		b, err := d.Read(i)
		if err != api.OK {
			t.Fatalf("Read(%d): %d", i, err)
		}
		all = append(all, b)
	}
	return all
}

// stands looks whether a disk has these sectors, and nothing that is not safe.
func stands(t *testing.T, d *disk.Disk, want [][]byte) {
	t.Helper()
	for i, b := range sectorsOf(t, d) {
		if !bytes.Equal(b, want[i]) {
			t.Errorf("sector %d: %v, not %v", i, b, want[i])
		}
	}
	if got := d.Pending(); len(got) != 0 {
		t.Errorf("not safe: %v", got)
	}
}

// holds looks whether the pages from 0 on are full of these bytes.
func holds(t *testing.T, l *Log, cs ...byte) {
	t.Helper()
	for page, c := range cs {
		if b, err := l.Load(page); err != api.OK || !bytes.Equal(b, full(c)) {
			t.Errorf("page %d is not full of %d: %d, %v", page, c, err, b)
		}
	}
}

// P6.1: the mark alone is written, and safe.
func TestFormat(t *testing.T) {
	d := newDisk(t, 9)
	lay(t, d, 5, packed(t, 0, 7, 3))
	want := sectorsOf(t, d)
	want[0] = packed(t, 0, 1, 0)
	writes := d.Writes()
	if err := Format(d); err != api.OK {
		t.Fatalf("Format: %d", err)
	}
	stands(t, d, want)
	if got := d.Writes() - writes; got != 1 {
		t.Errorf("%d writes", got)
	}
	d.Crash(nil)
	stands(t, d, want)
}

// P6.1: what was committed is at home still; its seq begins again.
func TestFormatAgain(t *testing.T) {
	d := formatted(t, 9)
	commit(t, open(t, d), image(2, 5))
	if err := Format(d); err != api.OK {
		t.Fatalf("Format: %d", err)
	}
	l := open(t, d)
	if l.Seq() != 1 {
		t.Errorf("seq %d", l.Seq())
	}
	holds(t, l, 0, 0, 5, 0)
}

// P6.1: a disk that goes down, or is down.
func TestFormatDown(t *testing.T) {
	d := newDisk(t, 9)
	want := sectorsOf(t, d)
	d.Arm(0)
	for range 2 {
		if err := Format(d); err != api.ErrDown {
			t.Errorf("Format: %d", err)
		}
	}
	d.Crash([]int{0})
	stands(t, d, want)
}

// P6.1: the log of a disk to which nothing was committed.
func TestOpen(t *testing.T) {
	for _, c := range []struct{ sectors, pages int }{{3, 1}, {4, 1}, {9, 4}, {10, 4}, {api.MaxSectors, 32767}} {
		d := formatted(t, c.sectors)
		l := open(t, d)
		if l.Pages() != c.pages || l.Seq() != 1 {
			t.Errorf("of %d sectors: %d pages, seq %d", c.sectors, l.Pages(), l.Seq())
		}
		if d.Writes() != 1 || len(d.Pending()) != 0 {
			t.Errorf("of %d sectors: %d writes, pending %v", c.sectors, d.Writes(), d.Pending())
		}
	}
}

// P6.1: what is no Pack at the mark.
func TestOpenNoMark(t *testing.T) {
	broken := packed(t, 0, 1, 0)
	broken[100]++
	for _, b := range [][]byte{make([]byte, api.Sector), bytes.Repeat([]byte{255}, api.Sector), broken} {
		d := newDisk(t, 9)
		lay(t, d, 1, packed(t, 0, 1, 7))
		lay(t, d, 0, b)
		want, writes := sectorsOf(t, d), d.Writes()
		if l, err := Open(d); l != nil || err != api.ErrForm {
			t.Errorf("Open: %v, %d", l, err)
		}
		stands(t, d, want)
		if d.Writes() != writes {
			t.Errorf("%d writes", d.Writes()-writes)
		}
	}
}

// P6.1: the disk's error comes first.
func TestOpenDown(t *testing.T) {
	for _, d := range []*disk.Disk{newDisk(t, 9), formatted(t, 9)} {
		d.Arm(0)
		d.Write(8, make([]byte, api.Sector))
		if l, err := Open(d); l != nil || err != api.ErrDown {
			t.Errorf("Open: %v, %d", l, err)
		}
	}
}

// P6.1: the seq is that of the mark, whatever its data.
func TestOpenSeq(t *testing.T) {
	for _, seq := range []int{0, 1, 2, 1 << 40, 1 << 62} {
		d := newDisk(t, 9)
		lay(t, d, 0, packed(t, 0, seq, 77))
		if l := open(t, d); l.Seq() != seq {
			t.Errorf("seq %d, not %d", l.Seq(), seq)
		}
	}
}

// whole answers a disk whose first three slots are to be written at pages 2, 0 and 3 (of 4).
func whole(t *testing.T) *disk.Disk {
	t.Helper()
	d := newDisk(t, 9)
	lay(t, d, 0, packed(t, 3, 7, 0))
	lay(t, d, 1, packed(t, 2, 7, 11))
	lay(t, d, 2, packed(t, 0, 7, 12))
	lay(t, d, 3, packed(t, 3, 7, 13))
	lay(t, d, 4, packed(t, 1, 7, 14))
	lay(t, d, 5, packed(t, 0, 6, 21))
	lay(t, d, 6, packed(t, 1, 6, 22))
	return d
}

// P6.1: slots that are whole come home as they are; those behind the count do not.
func TestOpenWhole(t *testing.T) {
	d := whole(t)
	want, writes := sectorsOf(t, d), d.Writes()
	want[5], want[7], want[8] = want[2], want[1], want[3]
	l := open(t, d)
	stands(t, d, want)
	if l.Seq() != 7 || d.Writes()-writes != 3 {
		t.Errorf("seq %d, %d writes", l.Seq(), d.Writes()-writes)
	}
	holds(t, l, 12, 22, 11, 13)
}

// P6.1: as many as there are pages may come home.
func TestOpenAllWhole(t *testing.T) {
	d := whole(t)
	lay(t, d, 0, packed(t, 4, 7, 0))
	holds(t, open(t, d), 12, 14, 11, 13)
}

// P6.1: each in order, so that of two slots with one page the later one stays.
func TestOpenPageTwice(t *testing.T) {
	d := whole(t)
	lay(t, d, 2, packed(t, 2, 7, 15))
	writes := d.Writes()
	l := open(t, d)
	if got := d.Writes() - writes; got != 3 {
		t.Errorf("%d writes", got)
	}
	holds(t, l, 21, 22, 15, 13)
}

// P6.1: slots that are not whole stay where they are, and the log is opened all the same.
func TestOpenNotWhole(t *testing.T) {
	broken := packed(t, 3, 7, 13)
	broken[255]++
	for _, c := range []struct {
		at int
		b  []byte
	}{
		{1, make([]byte, api.Sector)},
		{3, make([]byte, api.Sector)},
		{3, broken},
		{1, packed(t, 2, 6, 11)},
		{3, packed(t, 3, 6, 13)},
		{3, packed(t, 3, 8, 13)},
		{2, packed(t, 4, 7, 12)},
		{3, packed(t, 4, 7, 13)},
		{3, packed(t, 1<<32-1, 7, 13)},
		{0, packed(t, 5, 7, 0)},
		{0, packed(t, 1<<16, 7, 0)},
		{0, packed(t, 1<<32-1, 7, 0)},
	} {
		d := whole(t)
		lay(t, d, c.at, c.b)
		want, writes := sectorsOf(t, d), d.Writes()
		l := open(t, d)
		stands(t, d, want)
		if l.Seq() != 7 || d.Writes() != writes {
			t.Errorf("sector %d: seq %d, %d writes", c.at, l.Seq(), d.Writes()-writes)
		}
	}
}

// P6.1: what is no Pack has no seq, not even 0.
func TestOpenNotWholeSeqNought(t *testing.T) {
	d := newDisk(t, 9)
	lay(t, d, 5, packed(t, 0, 0, 6))
	lay(t, d, 0, packed(t, 1, 0, 0))
	want, writes := sectorsOf(t, d), d.Writes()
	l := open(t, d)
	stands(t, d, want)
	if l.Seq() != 0 || d.Writes() != writes {
		t.Errorf("seq %d, %d writes", l.Seq(), d.Writes()-writes)
	}
	holds(t, l, 6, 0, 0, 0)
}

// P6.1: the disk's going down while slots come home is the answer, with no log.
func TestOpenGoesDown(t *testing.T) {
	for n := range 3 {
		d := whole(t)
		d.Arm(n)
		if l, err := Open(d); l != nil || err != api.ErrDown {
			t.Errorf("Open: %v, %d", l, err)
		}
		if got, want := d.Pending(), []int{7, 5, 8}[:n]; !slices.Equal(got, want) {
			t.Errorf("written: %v, not %v", got, want)
		}
	}
	d := whole(t)
	d.Arm(3)
	open(t, d)
}

// P6.2
func TestLoad(t *testing.T) {
	d := formatted(t, 9)
	broken := packed(t, 3, 1, 33)
	broken[20]++
	lay(t, d, 5, packed(t, 0, 1, 30))
	lay(t, d, 6, packed(t, 0, 1, 31)) // another page's
	lay(t, d, 7, packed(t, 2, 1<<62, 32))
	lay(t, d, 8, broken)
	l := open(t, d)
	holds(t, l, 30, 0, 32, 0)
	for _, page := range []int{math.MinInt, -5, -4, -1, 4, 5, 8, 9, 1 << 32, math.MaxInt} {
		if b, err := l.Load(page); b != nil || err != api.ErrArg {
			t.Errorf("Load(%d): %v, %d", page, b, err)
		}
	}
}

// P6.2: of a disk that is down, the page's error first.
func TestLoadDown(t *testing.T) {
	d := formatted(t, 9)
	l := open(t, d)
	d.Arm(0)
	d.Write(8, make([]byte, api.Sector))
	if b, err := l.Load(4); b != nil || err != api.ErrArg {
		t.Errorf("Load(4): %v, %d", b, err)
	}
	if b, err := l.Load(3); b != nil || err != api.ErrDown {
		t.Errorf("Load(3): %v, %d", b, err)
	}
	if l.Pages() != 4 || l.Seq() != 1 {
		t.Errorf("%d pages, seq %d", l.Pages(), l.Seq())
	}
	d.Crash(nil)
	holds(t, l, 0, 0, 0, 0)
}

// P6.2: what a Commit writes; the slots behind it are as they were.
func TestCommit(t *testing.T) {
	d := formatted(t, 9)
	l := open(t, d)
	want, writes := sectorsOf(t, d), d.Writes()
	commit(t, l, image(2, 5), image(0, 6), image(3, 7))
	want[0] = packed(t, 3, 2, 0)
	want[1], want[2], want[3] = packed(t, 2, 2, 5), packed(t, 0, 2, 6), packed(t, 3, 2, 7)
	want[7], want[5], want[8] = want[1], want[2], want[3]
	stands(t, d, want)
	if l.Seq() != 2 || d.Writes()-writes != 7 {
		t.Errorf("seq %d, %d writes", l.Seq(), d.Writes()-writes)
	}
	holds(t, l, 6, 0, 5, 7)

	commit(t, l, image(3, 9))
	want[0], want[1], want[8] = packed(t, 1, 3, 0), packed(t, 3, 3, 9), packed(t, 3, 3, 9)
	stands(t, d, want)
	if l.Seq() != 3 || d.Writes()-writes != 10 {
		t.Errorf("seq %d, %d writes", l.Seq(), d.Writes()-writes)
	}
	holds(t, l, 6, 0, 5, 9)
	again := open(t, d)
	holds(t, again, 6, 0, 5, 9)
	if again.Seq() != 3 {
		t.Errorf("opened again: seq %d", again.Seq())
	}
}

// P6.2: all pages there are, on the smallest disk and on the greatest.
func TestCommitAll(t *testing.T) {
	for _, sectors := range []int{3, 4, 9, api.MaxSectors} {
		d := formatted(t, sectors)
		l := open(t, d)
		var images []api.Image
		for page := range l.Pages() {
			images = append(images, image(l.Pages()-1-page, byte(page)))
		}
		commit(t, l, images...)
		for _, log := range []*Log{l, open(t, d)} {
			for page := range l.Pages() {
				if b, err := log.Load(page); err != api.OK || !bytes.Equal(b, full(byte(l.Pages()-1-page))) {
					t.Fatalf("of %d sectors page %d: %d, %v", sectors, page, err, b)
				}
			}
		}
	}
}

// P6.2: where a disk that goes down at the n-th write is left, and the log's seq.
func TestCommitGoesDown(t *testing.T) {
	for n, c := range []struct {
		pending []int
		seq     int
	}{
		{nil, 2}, {[]int{1}, 2}, {[]int{1, 2}, 2}, {nil, 2}, {nil, 3}, {[]int{7}, 3}, {[]int{7, 5}, 3},
	} {
		d := formatted(t, 9)
		l := open(t, d)
		commit(t, l, image(1, 4))
		d.Arm(n)
		if err := l.Commit([]api.Image{image(2, 5), image(0, 6), image(3, 7)}); err != api.ErrDown {
			t.Errorf("armed with %d: %d", n, err)
		}
		if got := d.Pending(); !slices.Equal(got, c.pending) || l.Seq() != c.seq {
			t.Errorf("armed with %d: pending %v, not %v; seq %d, not %d", n, got, c.pending, l.Seq(), c.seq)
		}
	}
	d := formatted(t, 9)
	l := open(t, d)
	d.Arm(7)
	commit(t, l, image(2, 5), image(0, 6), image(3, 7))
	d.Crash(nil)
	holds(t, l, 6, 0, 5, 7)
}

// P6.2: a disk that is down already.
func TestCommitDown(t *testing.T) {
	d := formatted(t, 9)
	l := open(t, d)
	want := sectorsOf(t, d)
	d.Arm(0)
	for range 2 {
		if err := l.Commit([]api.Image{image(2, 5)}); err != api.ErrDown || l.Seq() != 1 {
			t.Errorf("Commit: %d, seq %d", err, l.Seq())
		}
	}
	if err := l.Commit(nil); err != api.OK {
		t.Errorf("Commit of none: %d", err)
	}
	if err := l.Commit([]api.Image{image(4, 5)}); err != api.ErrArg {
		t.Errorf("Commit of page 4: %d", err)
	}
	d.Crash(nil)
	stands(t, d, want)
	commit(t, l, image(2, 5))
	holds(t, open(t, d), 0, 0, 5, 0)
}

// P6.2: images that are refused change nothing.
func TestCommitRefused(t *testing.T) {
	five := []api.Image{image(0, 1), image(1, 1), image(2, 1), image(3, 1), image(4, 1)}
	for _, c := range []struct {
		images []api.Image
		err    api.Errno
	}{
		{five, api.ErrFull},
		{make([]api.Image, 5), api.ErrFull},
		{[]api.Image{{Page: 0}}, api.ErrArg},
		{[]api.Image{{Page: 0, Data: full(1)[1:]}}, api.ErrArg},
		{[]api.Image{{Page: 0, Data: append(full(1), 1)}}, api.ErrArg},
		{[]api.Image{image(0, 1), {Page: 1, Data: make([]byte, api.Sector)}}, api.ErrArg},
		{[]api.Image{image(-1, 1)}, api.ErrArg},
		{[]api.Image{image(4, 1)}, api.ErrArg},
		{[]api.Image{image(0, 1), image(1, 1), image(4, 1)}, api.ErrArg},
		{[]api.Image{image(1<<32, 1)}, api.ErrArg},
		{[]api.Image{image(math.MinInt, 1)}, api.ErrArg},
		{[]api.Image{image(math.MaxInt, 1)}, api.ErrArg},
		{[]api.Image{image(1, 1), image(1, 1)}, api.ErrArg},
		{[]api.Image{image(0, 1), image(1, 1), image(2, 1), image(0, 2)}, api.ErrArg},
	} {
		d := formatted(t, 9)
		l := open(t, d)
		commit(t, l, image(1, 4))
		want, writes := sectorsOf(t, d), d.Writes()
		if err := l.Commit(c.images); err != c.err {
			t.Errorf("%v: %d, not %d", c.images, err, c.err)
		}
		stands(t, d, want)
		if l.Seq() != 2 || d.Writes() != writes {
			t.Errorf("%v: seq %d, %d writes", c.images, l.Seq(), d.Writes()-writes)
		}
	}
}

// P6.2, R6: without any image nothing is done.
func TestCommitNone(t *testing.T) {
	d := formatted(t, 9)
	l := open(t, d)
	d.Write(8, packed(t, 3, 1, 5))
	writes := d.Writes()
	commit(t, l)
	commit(t, l, []api.Image{}...)
	if err := l.Commit([]api.Image{}); err != api.OK {
		t.Errorf("Commit of none: %d", err)
	}
	if l.Seq() != 1 || d.Writes() != writes || !slices.Equal(d.Pending(), []int{8}) {
		t.Errorf("seq %d, %d writes, pending %v", l.Seq(), d.Writes()-writes, d.Pending())
	}
}

// P6.2: behind the last seq that a sector takes there is none, and nothing is written.
func TestCommitLastSeq(t *testing.T) {
	d := newDisk(t, 9)
	lay(t, d, 0, packed(t, 0, 1<<62-1, 0))
	l := open(t, d)
	commit(t, l, image(1, 5))
	if l.Seq() != 1<<62 {
		t.Errorf("seq %d", l.Seq())
	}
	want, writes := sectorsOf(t, d), d.Writes()
	if err := l.Commit([]api.Image{image(1, 6)}); err != api.ErrArg {
		t.Errorf("Commit: %d", err)
	}
	stands(t, d, want)
	if l.Seq() != 1<<62 || d.Writes() != writes {
		t.Errorf("seq %d, %d writes", l.Seq(), d.Writes()-writes)
	}
	holds(t, l, 0, 5, 0, 0)
	commit(t, l)
}

// P6.3, R5
func TestNoLog(t *testing.T) {
	for _, d := range []*disk.Disk{nil, {}} {
		if err := Format(d); err != api.ErrNil {
			t.Errorf("Format: %d", err)
		}
		if l, err := Open(d); l != nil || err != api.ErrNil {
			t.Errorf("Open: %v, %d", l, err)
		}
	}
	for _, l := range []*Log{nil, {}} {
		for _, page := range []int{-1, 0, 1} {
			if b, err := l.Load(page); b != nil || err != api.ErrNil {
				t.Errorf("Load(%d): %v, %d", page, b, err)
			}
		}
		for _, images := range [][]api.Image{nil, {}, {image(0, 1)}, {image(-1, 1)}, make([]api.Image, 9)} {
			if err := l.Commit(images); err != api.ErrNil {
				t.Errorf("Commit(%v): %d", images, err)
			}
		}
		if l.Pages() != 0 || l.Seq() != 0 {
			t.Errorf("%d pages, seq %d", l.Pages(), l.Seq())
		}
	}
}

// R3: neither what was committed nor what was loaded is shared with what stands within.
func TestNothingShared(t *testing.T) {
	d := formatted(t, 9)
	l := open(t, d)
	data := full(5)
	images := []api.Image{{Page: 2, Data: data}, {Page: 0, Data: data}}
	commit(t, l, images...)
	if images[0].Page != 2 || images[1].Page != 0 || !bytes.Equal(data, full(5)) {
		t.Errorf("changed: %v", images)
	}
	clear(data)
	clear(images)
	holds(t, l, 5, 0, 5, 0)
	b, _ := l.Load(2)
	clear(b)
	none, _ := l.Load(1)
	none[0] = 1
	holds(t, l, 5, 0, 5, 0)
	holds(t, open(t, d), 5, 0, 5, 0)
}

// R3: the spare room of what is handed in stays as it is.
func TestSpareRoom(t *testing.T) {
	l := open(t, formatted(t, 9))
	room := append(full(5), 1, 2, 3)
	images := []api.Image{{Page: 1, Data: room[:api.Page]}, image(3, 9)}
	commit(t, l, images[:1]...)
	if !bytes.Equal(room[api.Page:], []byte{1, 2, 3}) || images[1].Page != 3 || !bytes.Equal(images[1].Data, full(9)) {
		t.Errorf("changed: %v, %v", room[api.Page:], images[1])
	}
}
