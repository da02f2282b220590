package kv

import (
	"maps"
	"strconv"
	"strings"
	"testing"

	"exchequer/api"
	"exchequer/disk"
)

// begun answers a store with some keys, and its disk; the same ones each time.
func begun(t *testing.T) (*disk.Disk, *KV, map[string]string) {
	t.Helper()
	d, k := storeOf(t, 16)
	want := map[string]string{}
	for i := range 5 {
		key, value := strconv.Itoa(i), strings.Repeat("v", 70+i)
		write(t, k, puts(key, value), nil)
		want[key] = value
	}
	return d, k, want
}

// next does a Write that changes several pages, and answers what there is to be.
func next(k *KV, old map[string]string) (map[string]string, api.Errno) {
	want := maps.Clone(old)
	delete(want, "0")
	delete(want, "2")
	want["1"], want["5"], want["6"], want["8"] = "w", strings.Repeat("w", 100), strings.Repeat("w", 110), ""
	in := puts("1", want["1"], "5", want["5"], "6", want["6"], "8", "")
	return want, k.Write(in, dels("0", "2", "7"))
}

// allDown looks whether each call tells that the disk is down.
func allDown(t *testing.T, k *KV) {
	t.Helper()
	if value, ok, err := k.Get([]byte("1")); value != nil || ok || err != api.ErrDown {
		t.Errorf("Get: %q, %v, %d", value, ok, err)
	}
	if pairs, err := k.Scan(nil); pairs != nil || err != api.ErrDown {
		t.Errorf("Scan: %v, %d", pairs, err)
	}
	refused(t, k, api.ErrDown, puts("1", "x"), nil)
	refused(t, k, api.ErrDown, nil, dels("1"))
	refused(t, k, api.ErrDown, nil, nil)
	if k.Len() != 0 {
		t.Errorf("Len: %d", k.Len())
	}
}

// kept answers the places that stand in a set, given as bits.
func kept(set int) []int {
	var places []int
	for i := range 30 {
		if set>>i&1 == 1 {
			places = append(places, i)
		}
	}
	return places
}

// P13.2: wherever the disk goes down in a Write, and whatever is kept: all of it is there, or nothing. Before that each call tells that it is down.
func TestCrash(t *testing.T) {
	some, all := false, false
	for n := 0; ; n++ {
		sets := 1
		for set := 0; set < sets; set++ {
			d, k, old := begun(t)
			d.Arm(n)
			want, err := next(k, old)
			if err == api.OK {
				holds(t, k, want)
				if !some || !all || n < 7 {
					t.Errorf("%d writes; before and behind were seen: %v, %v", n, some, all)
				}
				return
			}
			if err != api.ErrDown {
				t.Fatalf("write %d: %d", n, err)
			}
			sets = 1 << len(d.Pending())
			allDown(t, k)
			d.Crash(kept(set))
			allDown(t, k)
			now := open(t, d)
			if now.Len() == len(old) {
				some = true
				holds(t, now, old)
			} else {
				all = true
				holds(t, now, want)
			}
			allDown(t, k)
			again(t, d, now)
		}
	}
}

// again looks whether a store that was opened is the same when it is opened once more, and goes on.
func again(t *testing.T, d *disk.Disk, k *KV) {
	t.Helper()
	before := scan(t, k, "")
	d.Crash(nil)
	other := open(t, d)
	if scan(t, other, "") != before {
		t.Errorf("%q, not %q", scan(t, other, ""), before)
	}
	write(t, other, puts("z", "1"), dels("1"))
	if value, ok, err := open(t, d).Get([]byte("z")); string(value) != "1" || !ok || err != api.OK {
		t.Errorf("Get: %q, %v, %d", value, ok, err)
	}
}

// P13.2: the disk may go down while the store is opened again, too.
func TestCrashInOpen(t *testing.T) {
	for n := 0; n < 40; n++ {
		for m := 0; m < 12; m++ {
			d, k, old := begun(t)
			d.Arm(n)
			want, err := next(k, old)
			if err == api.OK {
				return
			}
			d.Crash(kept(n * 7))
			d.Arm(m)
			if k, err := Open(d); err != api.OK && (k != nil || err != api.ErrDown) {
				t.Fatalf("Open: %v, %d", k, err)
			}
			d.Crash(kept(m * 5))
			if now := open(t, d); now.Len() == len(old) {
				holds(t, now, old)
			} else {
				holds(t, now, want)
			}
		}
	}
	t.Error("no Write was done")
}

// P13.1: a store whose disk was down ahead of a Write is one that Open must tell of.
func TestDownAhead(t *testing.T) {
	d, k, old := begun(t)
	down(d)
	if _, err := next(k, old); err != api.ErrDown {
		t.Fatalf("Write: %d", err)
	}
	d.Crash(nil)
	allDown(t, k)
	holds(t, open(t, d), old)
}

// P13.1: what only asks tells that the disk is down, as long as it is.
func TestDownAsked(t *testing.T) {
	d, k, old := begun(t)
	down(d)
	if value, ok, err := k.Get([]byte("1")); value != nil || ok || err != api.ErrDown {
		t.Errorf("Get: %q, %v, %d", value, ok, err)
	}
	if pairs, err := k.Scan(nil); pairs != nil || err != api.ErrDown {
		t.Errorf("Scan: %v, %d", pairs, err)
	}
	d.Crash(nil)
	holds(t, k, old)
	want, err := next(k, old)
	if err != api.OK {
		t.Fatalf("Write: %d", err)
	}
	holds(t, k, want)
}

// life is a store beside the table that it must be as.
type life struct {
	t    *testing.T
	d    *disk.Disk
	k    *KV
	now  map[string]string
	seed uint32
}

// below answers a number from 0 to n less 1; the same numbers in each run.
func (l *life) below(n int) int {
	l.seed = l.seed*1664525 + 1013904223
	return int(l.seed>>8) % n
}

func (l *life) key() string { return strconv.Itoa(l.below(60)) }

// write does a Write of some keys, now and then with a disk that goes down in it.
func (l *life) write() {
	will := maps.Clone(l.now)
	var in []api.Pair
	var out [][]byte
	for range l.below(5) {
		key := l.key()
		out = append(out, []byte(key))
		delete(will, key)
	}
	for range l.below(5) {
		key, value := l.key(), strings.Repeat("v", l.below(121))
		in = append(in, puts(key, value)...)
		will[key] = value
	}
	if l.below(4) == 0 {
		l.d.Arm(l.below(20))
	}
	err := l.k.Write(in, out)
	l.d.Arm(-1)
	switch err {
	case api.OK:
		l.now = will
	case api.ErrDown:
		l.crash(will)
	case api.ErrFull:
	default:
		l.t.Fatalf("Write: %d", err)
	}
}

// crash lets the power go; the store must be then as before, or as it was to be.
func (l *life) crash(will map[string]string) {
	l.d.Crash(kept(l.below(1 << 12)))
	l.k = open(l.t, l.d)
	got := map[string]string{}
	pairs, err := l.k.Scan(nil)
	if err != api.OK {
		l.t.Fatalf("Scan: %d", err)
	}
	for _, p := range pairs {
		got[string(p.Key)] = string(p.Value)
	}
	if !maps.Equal(got, l.now) && !maps.Equal(got, will) {
		l.t.Fatalf("%d keys, neither those before nor those behind", len(got))
	}
	l.now = got
}

// P13.1, P13.2: a long life, with room and without.
func TestLife(t *testing.T) {
	for _, pages := range []int{5, 12, 30, 200} {
		d, k := storeOf(t, pages)
		l := &life{t: t, d: d, k: k, now: map[string]string{}, seed: uint32(pages)}
		for i := range 800 {
			l.write()
			if i%20 == 0 {
				holds(t, l.k, l.now)
			}
		}
		holds(t, l.k, l.now)
	}
}
