package disk

import (
	"bytes"
	"math"
	"slices"
	"testing"

	"exchequer/api"
)

// full answers a sector with c everywhere.
func full(c byte) []byte {
	return bytes.Repeat([]byte{c}, api.Sector)
}

func newDisk(t *testing.T, n int) *Disk {
	t.Helper()
	d, err := New(n)
	if d == nil || err != api.OK {
		t.Fatalf("New(%d): %v, %d", n, d, err)
	}
	return d
}

func write(t *testing.T, d *Disk, i int, c byte) {
	t.Helper()
	if err := d.Write(i, full(c)); err != api.OK {
		t.Fatalf("Write(%d): %d", i, err)
	}
}

func flush(t *testing.T, d *Disk) {
	t.Helper()
	if err := d.Flush(); err != api.OK {
		t.Fatalf("Flush: %d", err)
	}
}

// has looks whether the sectors from 0 on are full of these bytes.
func has(t *testing.T, d *Disk, cs ...byte) {
	t.Helper()
	for i, c := range cs {
		if b, err := d.Read(i); err != api.OK || !bytes.Equal(b, full(c)) {
			t.Errorf("sector %d is not full of %d: %d, %v", i, c, err, b)
		}
	}
}

func pends(t *testing.T, d *Disk, want ...int) {
	t.Helper()
	if got := d.Pending(); !slices.Equal(got, want) {
		t.Errorf("pending: %v, not %v", got, want)
	}
}

// P3.1: how many sectors there may be.
func TestNew(t *testing.T) {
	for _, n := range []int{math.MinInt, -3, -1, 0, 1, 2, api.MaxSectors + 1, 1<<32 + 3, math.MaxInt} {
		if d, err := New(n); d != nil || err != api.ErrArg {
			t.Errorf("New(%d): %v, %d", n, d, err)
		}
	}
	for _, n := range []int{3, 4, 1000, api.MaxSectors} {
		d := newDisk(t, n)
		if d.Size() != n || d.Writes() != 0 || d.Down() || len(d.Pending()) != 0 {
			t.Errorf("New(%d): %d, %d, %v, %v", n, d.Size(), d.Writes(), d.Down(), d.Pending())
		}
		for _, i := range []int{0, 1, n - 1} {
			if b, err := d.Read(i); err != api.OK || !bytes.Equal(b, full(0)) {
				t.Errorf("Read(%d) of %d: %v, %d", i, n, b, err)
			}
		}
	}
}

// P3.1: disks have nothing in common.
func TestTwoDisks(t *testing.T) {
	a, b := newDisk(t, 3), newDisk(t, 3)
	write(t, a, 1, 7)
	a.Arm(0)
	a.Write(1, full(8))
	has(t, b, 0, 0, 0)
	write(t, b, 2, 9)
	if b.Writes() != 1 || a.Writes() != 1 || b.Down() {
		t.Error(a.Writes(), b.Writes(), b.Down())
	}
}

// P3.1: what is written is read, be it flushed or not.
func TestReadWrite(t *testing.T) {
	d := newDisk(t, 5)
	write(t, d, 0, 1)
	write(t, d, 4, 2)
	has(t, d, 1, 0, 0, 0, 2)
	write(t, d, 0, 3)
	has(t, d, 3, 0, 0, 0, 2)
	flush(t, d)
	has(t, d, 3, 0, 0, 0, 2)
	write(t, d, 4, 0)
	has(t, d, 3, 0, 0, 0, 0)
	b := make([]byte, api.Sector)
	for i := range b {
		b[i] = byte(i)
	}
	if err := d.Write(2, b); err != api.OK {
		t.Fatal(err)
	}
	if got, err := d.Read(2); err != api.OK || !bytes.Equal(got, b) {
		t.Error(got, err)
	}
}

// P3.1: wrong sectors and lengths change nothing, and are no writes.
func TestWrongArguments(t *testing.T) {
	d := newDisk(t, 4)
	write(t, d, 3, 9)
	d.Arm(0)
	for _, i := range []int{math.MinInt, -1, 4, 5, api.MaxSectors, 1 << 32, math.MaxInt} {
		if b, err := d.Read(i); b != nil || err != api.ErrArg {
			t.Errorf("Read(%d): %v, %d", i, b, err)
		}
		if err := d.Write(i, full(1)); err != api.ErrArg {
			t.Errorf("Write(%d): %d", i, err)
		}
	}
	for _, n := range []int{0, 1, api.Page, api.Sector - 1, api.Sector + 1, 2 * api.Sector} {
		if err := d.Write(3, make([]byte, n)); err != api.ErrArg {
			t.Errorf("Write of %d bytes: %d", n, err)
		}
	}
	if err := d.Write(3, nil); err != api.ErrArg {
		t.Error(err)
	}
	pends(t, d, 3)
	has(t, d, 0, 0, 0, 9)
	if d.Writes() != 1 || d.Down() {
		t.Error(d.Writes(), d.Down())
	}
}

// P3.1: a write that is refused burns nothing of what is left.
func TestWrongArgumentsBurnNothing(t *testing.T) {
	d := newDisk(t, 3)
	d.Arm(1)
	d.Write(3, full(1))
	d.Write(0, nil)
	write(t, d, 0, 1)
	if err := d.Write(0, full(2)); err != api.ErrDown || !d.Down() {
		t.Error(err)
	}
}

// P3.1: armed with n it does n writes, and goes down at the next.
func TestArm(t *testing.T) {
	for _, n := range []int{0, 1, 2, 7} {
		d := newDisk(t, 3)
		write(t, d, 2, 50)
		d.Arm(n)
		want := byte(0)
		for k := range n {
			want = byte(k + 1)
			write(t, d, 0, want)
			flush(t, d)
			if _, err := d.Read(0); err != api.OK || d.Down() {
				t.Fatalf("armed with %d it is down behind %d", n, k+1)
			}
		}
		if err := d.Write(0, full(99)); err != api.ErrDown || !d.Down() {
			t.Errorf("armed with %d: %d, %v", n, err, d.Down())
		}
		if d.Writes() != n+1 {
			t.Errorf("armed with %d: %d writes", n, d.Writes())
		}
		d.Crash([]int{0, 1})
		has(t, d, want, 0, 50)
	}
}

// P3.1: what goes down is what was not done; all calls with errors tell of it, whatever they are given.
func TestDown(t *testing.T) {
	d := newDisk(t, 3)
	write(t, d, 1, 4)
	d.Arm(0)
	if d.Down() {
		t.Error("armed, and down")
	}
	if err := d.Write(2, full(5)); err != api.ErrDown {
		t.Fatal(err)
	}
	for _, i := range []int{-1, 0, 1, 3} {
		if b, err := d.Read(i); b != nil || err != api.ErrDown {
			t.Errorf("Read(%d): %v, %d", i, b, err)
		}
		if err := d.Write(i, full(6)); err != api.ErrDown {
			t.Errorf("Write(%d): %d", i, err)
		}
		if err := d.Write(i, nil); err != api.ErrDown {
			t.Errorf("Write(%d, nil): %d", i, err)
		}
	}
	if err := d.Flush(); err != api.ErrDown {
		t.Errorf("Flush: %d", err)
	}
	pends(t, d, 1)
	if d.Size() != 3 || d.Writes() != 1 || !d.Down() {
		t.Error(d.Size(), d.Writes(), d.Down())
	}
	d.Arm(5)
	d.Arm(-1)
	if err := d.Write(0, full(6)); err != api.ErrDown || !d.Down() {
		t.Errorf("Arm lets it come up: %d", err)
	}
	d.Crash(nil)
	has(t, d, 0, 0, 0)
}

// P3.2: below 0 it is not armed any more.
func TestArmBelowNought(t *testing.T) {
	for _, n := range []int{-1, -2, math.MinInt} {
		d := newDisk(t, 3)
		d.Arm(1)
		d.Arm(n)
		for range 10 {
			write(t, d, 0, 1)
		}
	}
	d := newDisk(t, 3)
	d.Arm(0)
	d.Arm(2)
	write(t, d, 0, 1)
	d.Arm(math.MaxInt)
	write(t, d, 0, 2)
	d.Arm(0)
	if err := d.Write(0, full(3)); err != api.ErrDown {
		t.Error(err)
	}
}

// P3.2: neither armed nor down behind a crash.
func TestCrashMends(t *testing.T) {
	d := newDisk(t, 3)
	d.Arm(2)
	write(t, d, 0, 1)
	d.Crash(nil)
	for range 5 {
		write(t, d, 0, 2)
	}
	d.Arm(0)
	d.Write(0, full(3))
	d.Crash(nil)
	if d.Down() {
		t.Error("down")
	}
	for range 5 {
		write(t, d, 0, 2)
	}
}

// P3.2: in the order of each one's first write.
func TestPending(t *testing.T) {
	d := newDisk(t, 8)
	for _, i := range []int{5, 2, 7, 2, 0, 5} {
		write(t, d, i, 1)
	}
	pends(t, d, 5, 2, 7, 0)
	flush(t, d)
	pends(t, d)
	write(t, d, 0, 1) // as it was, but written
	write(t, d, 5, 2)
	pends(t, d, 0, 5)
	d.Crash([]int{0})
	pends(t, d)
	write(t, d, 5, 2)
	pends(t, d, 5)
	d.Read(3)
	pends(t, d, 5)
}

// P3.2: places tell what is kept, not sectors; each has what was written last, or what was safe.
func TestCrash(t *testing.T) {
	for _, c := range []struct {
		keep []int
		want []byte
	}{
		{nil, []byte{10, 11, 12, 0}},
		{[]int{}, []byte{10, 11, 12, 0}},
		{[]int{0}, []byte{10, 11, 12, 24}},
		{[]int{1}, []byte{10, 22, 12, 0}},
		{[]int{2}, []byte{23, 11, 12, 0}},
		{[]int{2, 0}, []byte{23, 11, 12, 24}},
		{[]int{0, 1, 2}, []byte{23, 22, 12, 24}},
		{[]int{1, 1, 1}, []byte{10, 22, 12, 0}},
		{[]int{-1, 3, 4, math.MaxInt, math.MinInt, 1 << 32}, []byte{10, 11, 12, 0}},
		{[]int{-1, 3, 1}, []byte{10, 22, 12, 0}},
	} {
		d := newDisk(t, 4)
		for i := range 3 {
			write(t, d, i, byte(10+i))
		}
		flush(t, d)
		write(t, d, 3, 20)
		write(t, d, 1, 22)
		write(t, d, 0, 23)
		write(t, d, 3, 24)
		pends(t, d, 3, 1, 0)
		d.Crash(c.keep)
		has(t, d, c.want...)
		pends(t, d)
		if d.Writes() != 7 {
			t.Errorf("keep %v: %d writes", c.keep, d.Writes())
		}
		// All is safe now: one more crash changes nothing.
		d.Crash([]int{0, 1, 2})
		d.Crash(nil)
		has(t, d, c.want...)
	}
}

// P3.2: also when it went down between.
func TestCrashOfWhatIsDown(t *testing.T) {
	d := newDisk(t, 3)
	write(t, d, 0, 1)
	flush(t, d)
	d.Arm(2)
	write(t, d, 0, 2)
	write(t, d, 1, 3)
	if err := d.Write(2, full(4)); err != api.ErrDown {
		t.Fatal(err)
	}
	pends(t, d, 0, 1)
	d.Crash([]int{1, 2})
	has(t, d, 1, 3, 0)
}

// P3.2: flushes, reads and what is refused are no writes.
func TestWrites(t *testing.T) {
	d := newDisk(t, 3)
	for k := range 4 {
		write(t, d, 0, 1)
		flush(t, d)
		d.Read(0)
		if d.Writes() != k+1 {
			t.Errorf("%d writes behind %d", d.Writes(), k+1)
		}
	}
	d.Arm(0)
	d.Write(0, full(1))
	d.Write(0, full(1))
	d.Crash(nil)
	if d.Writes() != 4 {
		t.Error(d.Writes())
	}
}

// P3.2, R5: what no call made.
func TestWhatNoCallMade(t *testing.T) {
	for _, d := range []*Disk{nil, {}} {
		d.Arm(0)
		d.Arm(3)
		d.Crash([]int{0})
		d.Crash(nil)
		if b, err := d.Read(0); b != nil || err != api.ErrNil {
			t.Error(b, err)
		}
		if _, err := d.Read(-1); err != api.ErrNil {
			t.Error(err)
		}
		if err := d.Write(0, full(1)); err != api.ErrNil {
			t.Error(err)
		}
		d.Arm(0)
		if err := d.Write(0, full(1)); err != api.ErrNil {
			t.Error(err)
		}
		if err := d.Write(-1, nil); err != api.ErrNil {
			t.Error(err)
		}
		if err := d.Flush(); err != api.ErrNil {
			t.Error(err)
		}
		if d.Size() != 0 || len(d.Pending()) != 0 || d.Writes() != 0 || d.Down() {
			t.Error(d.Size(), d.Pending(), d.Writes(), d.Down())
		}
	}
}

// P3.3: whatever is kept of what came behind the flush.
func TestFlushed(t *testing.T) {
	for keep := range 8 {
		d := newDisk(t, 6)
		for i := range 6 {
			write(t, d, i, byte(i+1))
		}
		flush(t, d)
		d.Arm(3)
		for i := range 4 {
			d.Write(i, full(byte(100+i)))
		}
		want := []byte{1, 2, 3, 4, 5, 6}
		var places []int
		for i := range 3 {
			if keep>>i&1 == 1 {
				places = append(places, i)
				want[i] = byte(100 + i)
			}
		}
		d.Crash(places)
		has(t, d, want...)
	}
}

// R3: neither what is written, nor what is answered, is the disk's.
func TestShares(t *testing.T) {
	d := newDisk(t, 3)
	b := full(1)
	d.Write(0, b)
	b[0] = 2
	has(t, d, 1)
	got, _ := d.Read(0)
	got[0] = 3
	has(t, d, 1)
	flush(t, d)
	got, _ = d.Read(0)
	got[0] = 4
	has(t, d, 1)
	got, _ = d.Read(1)
	got[0] = 5
	has(t, d, 1, 0, 0)

	write(t, d, 2, 6)
	write(t, d, 1, 6)
	list := d.Pending()
	list[0] = 0
	_ = append(list[:1], 77)
	pends(t, d, 2, 1)
	list = d.Pending()
	flush(t, d)
	write(t, d, 0, 7)
	if !slices.Equal(list, []int{2, 1}) {
		t.Errorf("a list that was answered became %v", list)
	}

	keep := []int{2, 0, 1, 0}
	d.Crash(keep[:2])
	if !slices.Equal(keep, []int{2, 0, 1, 0}) {
		t.Error(keep)
	}
}

// plain is a disk as the chapter's words have it, all by arrays.
type plain struct {
	safe, last [5]byte
	pending    []int
	armed      int
	down       bool
	writes     int
}

func (p *plain) write(i int, c byte) api.Errno {
	if p.down || p.armed == 0 {
		p.down = true
		return api.ErrDown
	}
	if p.armed > 0 {
		p.armed--
	}
	if !slices.Contains(p.pending, i) {
		p.pending = append(p.pending, i)
	}
	p.last[i] = c
	p.writes++
	return api.OK
}

func (p *plain) flush() api.Errno {
	if p.down {
		return api.ErrDown
	}
	p.safe, p.pending = p.last, nil
	return api.OK
}

func (p *plain) crash(keep []int) {
	for place, i := range p.pending {
		if slices.Contains(keep, place) {
			p.safe[i] = p.last[i]
		}
	}
	p.last, p.pending, p.armed, p.down = p.safe, nil, -1, false
}

// P3.1, P3.2, P3.3: many calls, held against the plain disk after each.
func TestAsThePlainDisk(t *testing.T) {
	d, p := newDisk(t, 5), &plain{armed: -1}
	seed := uint32(1)
	draw := func(n int) int {
		seed = seed*1664525 + 1013904223
		return int(seed>>8) % n
	}
	for step := range 20000 {
		switch draw(8) {
		case 0:
			if got, want := d.Flush(), p.flush(); got != want {
				t.Fatalf("step %d: Flush: %d, not %d", step, got, want)
			}
		case 1:
			n := draw(9) - 1
			d.Arm(n)
			p.armed = n
		case 2:
			keep := []int{draw(6), draw(6)}[:draw(3)]
			d.Crash(keep)
			p.crash(keep)
		default:
			i, c := draw(5), byte(draw(256))
			if got, want := d.Write(i, full(c)), p.write(i, c); got != want {
				t.Fatalf("step %d: Write: %d, not %d", step, got, want)
			}
		}
		if d.Down() != p.down || d.Writes() != p.writes || !slices.Equal(d.Pending(), p.pending) {
			t.Fatalf("step %d: %v, %d, %v", step, d.Down(), d.Writes(), d.Pending())
		}
		if !p.down {
			has(t, d, p.last[:]...)
		}
		if t.Failed() {
			t.Fatalf("step %d", step)
		}
	}
}
