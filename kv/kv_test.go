package kv

import (
	"bytes"
	"maps"
	"slices"
	"strconv"
	"strings"
	"testing"

	"exchequer/api"
	"exchequer/disk"
	"exchequer/layout"
	"exchequer/redo"
	"exchequer/sector"
)

func diskOf(t *testing.T, sectors int) *disk.Disk {
	t.Helper()
	d, err := disk.New(sectors)
	if err != api.OK {
		t.Fatalf("New(%d): %d", sectors, err)
	}
	return d
}

// storeOf answers a new store on so many pages, with its disk.
func storeOf(t *testing.T, pages int) (*disk.Disk, *KV) {
	t.Helper()
	d := diskOf(t, 2*pages+1)
	k, err := Format(d)
	if k == nil || err != api.OK {
		t.Fatalf("Format: %v, %d", k, err)
	}
	return d, k
}

func open(t *testing.T, d *disk.Disk) *KV {
	t.Helper()
	k, err := Open(d)
	if k == nil || err != api.OK {
		t.Fatalf("Open: %v, %d", k, err)
	}
	return k
}

// down lets a disk go down.
func down(d *disk.Disk) {
	d.Arm(0)
	d.Write(0, make([]byte, api.Sector))
}

// puts answers pairs; keys and values come in turn.
func puts(texts ...string) []api.Pair {
	var pairs []api.Pair
	for i := 0; i < len(texts); i += 2 {
		pairs = append(pairs, api.Pair{Key: []byte(texts[i]), Value: []byte(texts[i+1])})
	}
	return pairs
}

func dels(keys ...string) [][]byte {
	var all [][]byte
	for _, key := range keys {
		all = append(all, []byte(key))
	}
	return all
}

func write(t *testing.T, k *KV, puts []api.Pair, dels [][]byte) {
	t.Helper()
	if err := k.Write(puts, dels); err != api.OK {
		t.Fatalf("Write: %d", err)
	}
}

// refused looks whether a Write ends with this error.
func refused(t *testing.T, k *KV, want api.Errno, puts []api.Pair, dels [][]byte) {
	t.Helper()
	if err := k.Write(puts, dels); err != want {
		t.Fatalf("Write: %d, not %d", err, want)
	}
}

// texts answers pairs as one text, in their order.
func texts(pairs []api.Pair) string {
	var all []string
	for _, p := range pairs {
		all = append(all, string(p.Key)+"="+string(p.Value))
	}
	return strings.Join(all, " ")
}

// scan answers what Scan tells.
func scan(t *testing.T, k *KV, prefix string) string {
	t.Helper()
	pairs, err := k.Scan([]byte(prefix))
	if err != api.OK {
		t.Fatalf("Scan(%q): %d", prefix, err)
	}
	return texts(pairs)
}

// holds looks whether a store has these keys with these values, and no others.
func holds(t *testing.T, k *KV, want map[string]string) {
	t.Helper()
	pairs, err := k.Scan(nil)
	if err != api.OK || len(pairs) != len(want) || k.Len() != len(want) {
		t.Fatalf("Scan: %d pairs, %d; Len %d; want %d", len(pairs), err, k.Len(), len(want))
	}
	for i, key := range slices.Sorted(maps.Keys(want)) {
		if string(pairs[i].Key) != key || string(pairs[i].Value) != want[key] {
			t.Fatalf("%d: %q %q, not %q %q", i, pairs[i].Key, pairs[i].Value, key, want[key])
		}
		if value, ok, err := k.Get([]byte(key)); string(value) != want[key] || !ok || err != api.OK {
			t.Fatalf("Get(%q): %q, %v, %d", key, value, ok, err)
		}
	}
}

// P13.1: Format needs three pages; of less, of no disk, and of one that is down there is no store.
func TestFormat(t *testing.T) {
	for sectors := 3; sectors < 12; sectors++ {
		k, err := Format(diskOf(t, sectors))
		if sectors < 7 {
			if k != nil || err != api.ErrFull {
				t.Errorf("%d sectors: %v, %d", sectors, k, err)
			}
			continue
		}
		if k == nil || err != api.OK {
			t.Fatalf("%d sectors: %v, %d", sectors, k, err)
		}
		if k.Pages() != layout.Pages(sectors) || k.Len() != 0 || scan(t, k, "") != "" {
			t.Errorf("%d sectors: %d pages, %d keys", sectors, k.Pages(), k.Len())
		}
	}
	for _, d := range []*disk.Disk{nil, {}} {
		if k, err := Format(d); k != nil || err != api.ErrNil {
			t.Errorf("no disk: %v, %d", k, err)
		}
	}
	d := diskOf(t, 21)
	down(d)
	if k, err := Format(d); k != nil || err != api.ErrDown {
		t.Errorf("down: %v, %d", k, err)
	}
}

// P13.1: wherever the disk goes down in Format, it tells so; and what it made is safe.
func TestFormatDown(t *testing.T) {
	for n := 0; ; n++ {
		d := diskOf(t, 21)
		d.Arm(n)
		k, err := Format(d)
		if err == api.OK {
			if n != 8 {
				t.Errorf("%d writes", n)
			}
			d.Crash(nil)
			holds(t, open(t, d), nil)
			return
		}
		if k != nil || err != api.ErrDown {
			t.Fatalf("write %d: %v, %d", n, k, err)
		}
		d.Crash(nil)
		if k, err = Format(d); err != api.OK {
			t.Fatalf("write %d, again: %d", n, err)
		}
		write(t, k, puts("a", "1"), nil)
		holds(t, k, map[string]string{"a": "1"})
	}
}

// P13.1: Format of a disk with a store makes one without keys.
func TestFormatAgain(t *testing.T) {
	d, k := storeOf(t, 60)
	for i := range 40 {
		write(t, k, puts(strconv.Itoa(i), strings.Repeat("v", 90)), nil)
	}
	k, err := Format(d)
	if err != api.OK {
		t.Fatalf("Format: %d", err)
	}
	holds(t, k, nil)
	want := map[string]string{}
	for i := range 40 {
		key := strconv.Itoa(2 * i)
		write(t, k, puts(key, "w"), nil)
		want[key] = "w"
	}
	holds(t, k, want)
	holds(t, open(t, d), want)
}

// P13.1: what isn't there isn't opened.
func TestOpenErrors(t *testing.T) {
	bare, noStore, flat, small := diskOf(t, 21), diskOf(t, 21), diskOf(t, 21), diskOf(t, 3)
	redo.Format(noStore)
	redo.Format(small)
	Format(flat)
	down(flat)
	for _, c := range []struct {
		name string
		d    *disk.Disk
		want api.Errno
	}{
		{"nil", nil, api.ErrNil},
		{"unmade", &disk.Disk{}, api.ErrNil},
		{"without a mark", bare, api.ErrForm},
		{"without a store", noStore, api.ErrForm},
		{"with one page", small, api.ErrForm},
		{"down", flat, api.ErrDown},
	} {
		if k, err := Open(c.d); k != nil || err != c.want {
			t.Errorf("%s: %v, %d", c.name, k, err)
		}
	}
}

// P13.1: what was written is there, also when the disk is opened again, whatever of it is kept.
func TestWrite(t *testing.T) {
	d, k := storeOf(t, 30)
	write(t, k, puts("a", "1"), nil)
	holds(t, k, map[string]string{"a": "1"})
	holds(t, open(t, d), map[string]string{"a": "1"})
	write(t, k, puts("b", "2", "c", ""), dels("a", "d"))
	want := map[string]string{"b": "2", "c": ""}
	holds(t, k, want)
	d.Crash(nil)
	holds(t, k, want)
	holds(t, open(t, d), want)
	for _, key := range []string{"a", "d", "", "bb", strings.Repeat("b", 33)} {
		if value, ok, err := k.Get([]byte(key)); value != nil || ok || err != api.OK {
			t.Errorf("Get(%q): %q, %v, %d", key, value, ok, err)
		}
	}
	write(t, k, nil, nil)
	write(t, k, []api.Pair{}, [][]byte{})
	holds(t, k, want)
	write(t, k, nil, dels("c", "b"))
	holds(t, k, nil)
}

// P13.1: first all of dels are not there, then all of puts are, in order.
func TestWriteOrder(t *testing.T) {
	_, k := storeOf(t, 30)
	write(t, k, puts("a", "1", "b", "2"), nil)
	write(t, k, puts("a", "3", "c", "4", "a", "5", "c", ""), dels("a", "b", "b", "c"))
	holds(t, k, map[string]string{"a": "5", "c": ""})
}

// P13.1: the lengths of keys and values, of each one of them.
func TestWriteLengths(t *testing.T) {
	d, k := storeOf(t, 30)
	write(t, k, puts("a", "1"), nil)
	before := d.Writes()
	value := func(n int) string { return strings.Repeat("v", n) }
	key := func(n int) string { return strings.Repeat("k", n) }
	for _, c := range []struct {
		puts []api.Pair
		dels [][]byte
	}{
		{puts("", "1"), nil},
		{puts(key(33), "1"), nil},
		{puts("b", value(121)), nil},
		{nil, dels("")},
		{nil, dels(key(33))},
		{nil, [][]byte{nil}},
		{[]api.Pair{{}}, nil},
		{puts("b", "1", "c", "1", "", "1"), nil},
		{puts("b", "1", "c", value(121)), nil},
		{puts("b", "1", key(33), "1"), nil},
		{puts("b", "1"), dels("a", "")},
		{puts("b", "1"), dels("a", key(33), "b")},
		{puts("", "1"), dels("a")},
	} {
		refused(t, k, api.ErrArg, c.puts, c.dels)
		holds(t, k, map[string]string{"a": "1"})
		if d.Writes() != before || len(k.Changed()) != 0 {
			t.Fatalf("%q, %q: something was written", texts(c.puts), c.dels)
		}
	}
	want := map[string]string{"a": "1", key(32): value(120), "b": value(120), "c": ""}
	write(t, k, puts(key(32), value(120), "b", value(120), "c", ""), dels(key(31)))
	holds(t, k, want)
	write(t, k, nil, dels(key(32)))
	delete(want, key(32))
	holds(t, k, want)
}

// P13.1: on a disk that is down the lengths are looked at first.
func TestLengthsFirst(t *testing.T) {
	d, k := storeOf(t, 30)
	down(d)
	refused(t, k, api.ErrArg, puts("a", "1", "", "1"), dels("a"))
	refused(t, k, api.ErrArg, puts("a", "1", "b", strings.Repeat("v", 121)), dels("a"))
	refused(t, k, api.ErrArg, puts("a", "1"), dels("a", ""))
	refused(t, k, api.ErrDown, puts("a", "1"), dels("a"))
}

// P13.1: all pairs whose keys begin with a prefix, rising by their bytes.
func TestScan(t *testing.T) {
	_, k := storeOf(t, 60)
	write(t, k, puts("b", "1", "ab", "2", "a", "3", "\xff", "4", "\x00", "5", "abc", "6", "\xff\xff", "7", "aa", "8", "B", "9"), nil)
	for _, c := range []struct{ prefix, want string }{
		{"", "\x00=5 B=9 a=3 aa=8 ab=2 abc=6 b=1 \xff=4 \xff\xff=7"},
		{"a", "a=3 aa=8 ab=2 abc=6"},
		{"ab", "ab=2 abc=6"},
		{"abc", "abc=6"},
		{"abcd", ""},
		{"ac", ""},
		{"b", "b=1"},
		{"\xff", "\xff=4 \xff\xff=7"},
		{"\xff\xff\xff", ""},
		{"\x00", "\x00=5"},
		{strings.Repeat("a", 400), ""},
	} {
		if got := scan(t, k, c.prefix); got != c.want {
			t.Errorf("%q: %q, not %q", c.prefix, got, c.want)
		}
	}
}

// P13.1: without room nothing of a Write is there, and the store goes on.
func TestFull(t *testing.T) {
	d, k := storeOf(t, 3)
	v := strings.Repeat("v", 100)
	write(t, k, puts("a", v), nil)
	writes := d.Writes()
	refused(t, k, api.ErrFull, puts("a", "1", "b", "2", "c", v, "d", v, "e", v), dels("a"))
	holds(t, k, map[string]string{"a": v})
	refused(t, k, api.ErrFull, puts("b", "2", "d", v, "e", v), nil)
	holds(t, k, map[string]string{"a": v})
	if d.Writes() != writes || len(k.Changed()) != 0 {
		t.Errorf("%d writes, changed: %v", d.Writes()-writes, k.Changed())
	}
	holds(t, open(t, d), map[string]string{"a": v})
	write(t, k, puts("b", "2"), nil)
	want := map[string]string{"a": v, "b": "2"}
	holds(t, k, want)
	holds(t, open(t, d), want)
	// With one key less there is room for another.
	write(t, k, puts("c", v, "d", "4"), dels("a"))
	want = map[string]string{"b": "2", "c": v, "d": "4"}
	holds(t, k, want)
	holds(t, open(t, d), want)
}

// P13.1: without room for a bucket that is parted deep nothing of it is there, though pages were taken.
func TestFullDeep(t *testing.T) {
	for pages := 3; pages < 30; pages++ {
		d, k := storeOf(t, pages)
		want := map[string]string{}
		for i := 0; ; i++ {
			key, more := strconv.Itoa(i), "more"+strconv.Itoa(i)
			v := strings.Repeat("v", 60)
			err := k.Write(puts(more, v, key, v), dels(more))
			if err == api.ErrFull {
				break
			}
			if err != api.OK {
				t.Fatalf("%d pages, key %d: %d", pages, i, err)
			}
			want[key], want[more] = v, v
		}
		holds(t, k, want)
		holds(t, open(t, d), want)
	}
}

// P13.1: a page that is no bucket ends a Write; nothing of it is there, and what doesn't meet that page goes on.
func TestBrokenPage(t *testing.T) {
	d, k := storeOf(t, 30)
	v := strings.Repeat("v", 100)
	var keys []string
	for i := 0; k.Meta().Depth == 0; i++ {
		keys = append(keys, strconv.Itoa(i))
		write(t, k, puts(keys[i], v), nil)
	}
	l, err := redo.Open(d)
	if err != api.OK || l.Commit([]api.Image{{Page: 2, Data: bytes.Repeat([]byte{255}, api.Page)}}) != api.OK {
		t.Fatalf("no page: %d", err)
	}
	k = open(t, d)
	var good, bad string
	for _, key := range keys {
		if value, ok, err := k.Get([]byte(key)); err == api.OK {
			good = key
		} else if bad = key; value != nil || ok || err != api.ErrForm {
			t.Fatalf("Get(%q): %q, %v, %d", key, value, ok, err)
		}
	}
	if good == "" || bad == "" {
		t.Fatal("all keys on one page")
	}
	if pairs, err := k.Scan(nil); pairs != nil || err != api.ErrForm {
		t.Errorf("Scan: %q, %d", texts(pairs), err)
	}
	refused(t, k, api.ErrForm, puts(good, "1", bad, "1"), nil)
	refused(t, k, api.ErrForm, puts(good, "1"), dels(good, bad))
	if value, _, err := k.Get([]byte(good)); string(value) != v || err != api.OK || len(k.Changed()) != 0 {
		t.Errorf("Get(%q): %q, %d", good, value, err)
	}
	write(t, k, puts(good, "2"), nil)
	if value, _, _ := open(t, d).Get([]byte(good)); string(value) != "2" {
		t.Errorf("Get(%q): %q", good, value)
	}
}

// P13.1: a commit that can't be is an error too: nothing of it is there.
func TestLastSeq(t *testing.T) {
	d, k := storeOf(t, 30)
	write(t, k, puts("a", "1"), nil)
	b, err := sector.Pack(0, 1<<62, make([]byte, api.Page))
	if err != api.OK || d.Write(layout.Mark(), b) != api.OK {
		t.Fatalf("no mark: %d", err)
	}
	k = open(t, d)
	refused(t, k, api.ErrArg, puts("b", "2"), dels("a"))
	holds(t, k, map[string]string{"a": "1"})
	write(t, k, nil, nil)
}

// P13.1: Pages are the pager's, on a disk that is down too.
func TestPages(t *testing.T) {
	for _, pages := range []int{3, 4, 17, 1100} {
		d, k := storeOf(t, pages)
		if k.Pages() != pages {
			t.Errorf("%d, not %d", k.Pages(), pages)
		}
		down(d)
		if k.Pages() != pages || k.Len() != 0 {
			t.Errorf("down: %d, not %d", k.Pages(), pages)
		}
	}
}

// P13.1: of what no call made.
func TestUnmade(t *testing.T) {
	for _, k := range []*KV{nil, {}} {
		if value, ok, err := k.Get([]byte("a")); value != nil || ok || err != api.ErrNil {
			t.Errorf("Get: %q, %v, %d", value, ok, err)
		}
		if pairs, err := k.Scan(nil); pairs != nil || err != api.ErrNil {
			t.Errorf("Scan: %v, %d", pairs, err)
		}
		refused(t, k, api.ErrNil, puts("a", "1"), dels("b"))
		refused(t, k, api.ErrNil, puts("", "1"), nil)
		refused(t, k, api.ErrNil, nil, nil)
		if k.Len() != 0 || k.Pages() != 0 {
			t.Errorf("Len %d, Pages %d", k.Len(), k.Pages())
		}
	}
}

// R3: what is handed in is neither kept nor changed.
func TestArgumentsAlone(t *testing.T) {
	_, k := storeOf(t, 30)
	room := []byte("abcdefgh")
	in := []api.Pair{{Key: room[:1], Value: room[1:2]}, {Key: room[2:3], Value: room[3:4]}}
	out := [][]byte{room[4:5]}
	write(t, k, in[:1], out[:0])
	write(t, k, in, out)
	if string(room) != "abcdefgh" || texts(in) != "a=b c=d" || string(out[0]) != "e" {
		t.Errorf("%q, %q, %q", room, texts(in), out)
	}
	copy(room, "zzzzzzzz")
	holds(t, k, map[string]string{"a": "b", "c": "d"})
	prefix := []byte("abc")
	if pairs, err := k.Scan(prefix[:1]); texts(pairs) != "a=b" || err != api.OK || string(prefix) != "abc" {
		t.Errorf("%q, %d; %q", texts(pairs), err, prefix)
	}
}

// R3: what is answered is the caller's; its spare room too.
func TestAnswersAlone(t *testing.T) {
	_, k := storeOf(t, 30)
	want := map[string]string{"aa": "bb", "ac": "dd", "ae": "ff"}
	write(t, k, puts("aa", "bb", "ac", "dd", "ae", "ff"), nil)
	value, _, _ := k.Get([]byte("aa"))
	spoil(value)
	pairs, _ := k.Scan([]byte("a"))
	spoil(pairs[0].Key)
	spoil(pairs[0].Value)
	spoil(pairs[1].Key)
	if texts(pairs[1:]) != "zz=dd ae=ff" {
		t.Errorf("%q", texts(pairs))
	}
	pairs[0] = api.Pair{}
	_ = append(pairs[:1], api.Pair{})
	holds(t, k, want)
}

// spoil changes a list of bytes, and those behind it.
func spoil(b []byte) {
	for i := range b {
		b[i] = 'z'
	}
	for i := len(b); i < cap(b); i++ {
		b = append(b, 'z')
	}
}

// R4: the same calls leave the same disk.
func TestSameDisk(t *testing.T) {
	var first [][]byte
	for range 8 {
		d, k := storeOf(t, 60)
		for i := range 60 {
			key := strconv.Itoa(i * 7 % 40)
			k.Write(puts(key, strings.Repeat("v", i), "x"+key, key), dels(strconv.Itoa(i)))
		}
		var all [][]byte
		for i := range d.Size() {
			b, _ := d.Read(i)
			all = append(all, b)
		}
		if first == nil {
			first = all
		}
		if !slices.EqualFunc(first, all, bytes.Equal) {
			t.Fatal("another disk")
		}
	}
}
