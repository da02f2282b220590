package view

import (
	"strings"
	"testing"

	"exchequer/api"
	"exchequer/disk"
	"exchequer/kv"
)

// storeOf answers a new store on so many pages, with its disk.
func storeOf(t *testing.T, pages int) (*disk.Disk, *kv.KV) {
	t.Helper()
	d, err := disk.New(2*pages + 1)
	if err != api.OK {
		t.Fatalf("disk.New: %d", err)
	}
	k, err := kv.Format(d)
	if err != api.OK {
		t.Fatalf("Format: %d", err)
	}
	return d, k
}

// each does a test with a view of a store on a disk, and with one of a store of its own.
func each(t *testing.T, test func(t *testing.T, v *View)) {
	t.Run("on a disk", func(t *testing.T) {
		_, k := storeOf(t, 100)
		test(t, New(k))
	})
	t.Run("in memory", func(t *testing.T) { test(t, New(nil)) })
}

func put(t *testing.T, v *View, texts ...string) {
	t.Helper()
	for i := 0; i < len(texts); i += 2 {
		if err := v.Put([]byte(texts[i]), []byte(texts[i+1])); err != api.OK {
			t.Fatalf("Put(%q): %d", texts[i], err)
		}
	}
}

func remove(t *testing.T, v *View, key string, want bool) {
	t.Helper()
	if there := v.Delete([]byte(key)); there != want {
		t.Fatalf("Delete(%q): %v", key, there)
	}
}

func commit(t *testing.T, v *View) {
	t.Helper()
	if err := v.Commit(); err != api.OK {
		t.Fatalf("Commit: %d", err)
	}
	changes(t, v, "", "")
}

// gets looks what Get tells of a key.
func gets(t *testing.T, v *View, key, want string, there bool) {
	t.Helper()
	value, ok := v.Get([]byte(key))
	if string(value) != want || ok != there || !ok && value != nil {
		t.Errorf("Get(%q): %q, %v", key, value, ok)
	}
}

// texts answers pairs as one text, in their order.
func texts(pairs []api.Pair) string {
	var all []string
	for _, p := range pairs {
		all = append(all, string(p.Key)+"="+string(p.Value))
	}
	return strings.Join(all, " ")
}

// scans looks what Scan tells of a prefix.
func scans(t *testing.T, v *View, prefix, want string) {
	t.Helper()
	if got := texts(v.Scan([]byte(prefix))); got != want {
		t.Errorf("Scan(%q): %q, not %q", prefix, got, want)
	}
}

// changes looks what Changes tells.
func changes(t *testing.T, v *View, puts, dels string) {
	t.Helper()
	pairs, keys := v.Changes()
	var all []string
	for _, key := range keys {
		all = append(all, string(key))
	}
	if got := texts(pairs); got != puts {
		t.Errorf("Changes: puts %q, not %q", got, puts)
	}
	if got := strings.Join(all, " "); got != dels {
		t.Errorf("Changes: dels %q, not %q", got, dels)
	}
}

// has looks what Err tells.
func has(t *testing.T, v *View, want api.Errno) {
	t.Helper()
	if err := v.Err(); err != want {
		t.Errorf("Err: %d, not %d", err, want)
	}
}

// P14.1: what is Put is there, and what is Deleted is not, ahead of any Commit.
func TestAsItWillBe(t *testing.T) {
	each(t, func(t *testing.T, v *View) {
		gets(t, v, "a", "", false)
		scans(t, v, "", "")
		put(t, v, "a", "1", "b", "2", "a", "3", "c", "")
		gets(t, v, "a", "3", true)
		gets(t, v, "c", "", true)
		remove(t, v, "b", true)
		gets(t, v, "b", "", false)
		scans(t, v, "", "a=3 c=")
		put(t, v, "b", "4")
		gets(t, v, "b", "4", true)
		commit(t, v)
		scans(t, v, "", "a=3 b=4 c=")
		put(t, v, "a", "5", "d", "6")
		remove(t, v, "c", true)
		gets(t, v, "a", "5", true)
		gets(t, v, "b", "4", true)
		gets(t, v, "c", "", false)
		scans(t, v, "", "a=5 b=4 d=6")
		has(t, v, api.OK)
	})
}

// P14.1: Delete tells whether the key would be there.
func TestDelete(t *testing.T) {
	each(t, func(t *testing.T, v *View) {
		remove(t, v, "a", false)
		put(t, v, "a", "1")
		remove(t, v, "a", true)
		remove(t, v, "a", false)
		put(t, v, "a", "2", "b", "3")
		commit(t, v)
		remove(t, v, "a", true)
		remove(t, v, "a", false)
		remove(t, v, "", false)
		remove(t, v, strings.Repeat("a", 33), false)
		scans(t, v, "", "b=3")
		v.Abort()
		remove(t, v, "a", true)
		commit(t, v)
		remove(t, v, "a", false)
		gets(t, v, "a", "", false)
	})
}

// P14.1: the lengths of a key and of a value.
func TestLengths(t *testing.T) {
	each(t, func(t *testing.T, v *View) {
		key, value := strings.Repeat("k", 33), strings.Repeat("v", 121)
		for _, c := range [][2]string{{"", "1"}, {key, "1"}, {"k", value}, {"", value}, {key, value}} {
			if err := v.Put([]byte(c[0]), []byte(c[1])); err != api.ErrArg {
				t.Errorf("Put(%d, %d bytes): %d", len(c[0]), len(c[1]), err)
			}
			gets(t, v, c[0], "", false)
		}
		if err := v.Put(nil, nil); err != api.ErrArg {
			t.Errorf("Put(nil): %d", err)
		}
		scans(t, v, "", "")
		changes(t, v, "", "")
		has(t, v, api.OK)
		put(t, v, key[:32], value[:120], "k", "")
		if err := v.Put([]byte("l"), nil); err != api.OK {
			t.Errorf("Put(l, nil): %d", err)
		}
		want := "k= " + key[:32] + "=" + value[:120] + " l="
		scans(t, v, "", want)
		commit(t, v)
		scans(t, v, "", want)
	})
}

// P14.1: what begins with a prefix, rising by bytes, from the store and from what was changed.
func TestScan(t *testing.T) {
	each(t, func(t *testing.T, v *View) {
		put(t, v, "b", "1", "ab", "2", "\xff", "3", "abd", "4", "ac", "5")
		commit(t, v)
		put(t, v, "a", "6", "abc", "7", "ab", "8", "\x00", "9", "\xff\xff", "0", "B", "x")
		remove(t, v, "abd", true)
		for _, c := range []struct{ prefix, want string }{
			{"", "\x00=9 B=x a=6 ab=8 abc=7 ac=5 b=1 \xff=3 \xff\xff=0"},
			{"a", "a=6 ab=8 abc=7 ac=5"},
			{"ab", "ab=8 abc=7"},
			{"abc", "abc=7"},
			{"abd", ""},
			{"abcd", ""},
			{"\x00", "\x00=9"},
			{"\xff", "\xff=3 \xff\xff=0"},
			{"\xff\xff\xff", ""},
			{strings.Repeat("a", 400), ""},
		} {
			scans(t, v, c.prefix, c.want)
		}
		scans(t, v, "q", "")
		commit(t, v)
		scans(t, v, "a", "a=6 ab=8 abc=7 ac=5")
	})
}

// P14.1: Changes are what will be otherwise than it was, rising; nothing else.
func TestChanges(t *testing.T) {
	each(t, func(t *testing.T, v *View) {
		changes(t, v, "", "")
		put(t, v, "same", "1", "other", "2", "gone", "3", "empty", "", "back", "4", "left", "5")
		changes(t, v, "back=4 empty= gone=3 left=5 other=2 same=1", "")
		commit(t, v)
		put(t, v, "same", "1", "other", "3", "gone", "3", "empty", "", "new", "", "short", "6", "B", "7")
		remove(t, v, "gone", true)
		remove(t, v, "back", true)
		put(t, v, "back", "4")
		remove(t, v, "short", true)
		remove(t, v, "never", false)
		remove(t, v, "empty", true)
		changes(t, v, "B=7 new= other=3", "empty gone")
		changes(t, v, "B=7 new= other=3", "empty gone")
		put(t, v, "other", "2", "empty", "8", "gone", "3")
		remove(t, v, "left", true)
		remove(t, v, "B", true)
		remove(t, v, "back", true)
		changes(t, v, "empty=8 new=", "back left")
		commit(t, v)
		scans(t, v, "", "empty=8 gone=3 new= other=2 same=1")
		put(t, v, "empty", "")
		remove(t, v, "new", true)
		put(t, v, "new", "")
		changes(t, v, "empty=", "")
		v.Abort()
		changes(t, v, "", "")
	})
}

// P14.2: what is committed is there; what is aborted is not.
func TestCommitAbort(t *testing.T) {
	each(t, func(t *testing.T, v *View) {
		put(t, v, "a", "1")
		v.Abort()
		gets(t, v, "a", "", false)
		scans(t, v, "", "")
		commit(t, v)
		scans(t, v, "", "")
		put(t, v, "a", "1", "b", "2")
		commit(t, v)
		v.Abort()
		scans(t, v, "", "a=1 b=2")
		put(t, v, "a", "3", "c", "4")
		remove(t, v, "b", true)
		v.Abort()
		v.Abort()
		scans(t, v, "", "a=1 b=2")
		gets(t, v, "b", "2", true)
		commit(t, v)
		scans(t, v, "", "a=1 b=2")
		remove(t, v, "a", true)
		commit(t, v)
		commit(t, v)
		scans(t, v, "", "b=2")
		has(t, v, api.OK)
	})
}

// P14.1: a view is of the store that it is given: what it has is there, and what is committed comes about there.
func TestOfAStore(t *testing.T) {
	d, k := storeOf(t, 30)
	if err := k.Write([]api.Pair{{Key: []byte("a"), Value: []byte("1")}, {Key: []byte("b"), Value: []byte("2")}}, nil); err != api.OK {
		t.Fatalf("Write: %d", err)
	}
	v, other := New(k), New(k)
	scans(t, v, "", "a=1 b=2")
	put(t, v, "c", "3", "a", "4")
	remove(t, v, "b", true)
	scans(t, other, "", "a=1 b=2")
	if all, err := k.Scan(nil); texts(all) != "a=1 b=2" || err != api.OK {
		t.Errorf("ahead of Commit: %q, %d", texts(all), err)
	}
	commit(t, v)
	scans(t, other, "", "a=4 c=3")
	if all, err := k.Scan(nil); texts(all) != "a=4 c=3" || err != api.OK {
		t.Errorf("behind Commit: %q, %d", texts(all), err)
	}
	d.Crash(nil)
	k, err := kv.Open(d)
	if err != api.OK {
		t.Fatalf("Open: %d", err)
	}
	scans(t, New(k), "", "a=4 c=3")
}

// P14.1: what was is what the store has when Changes and Commit come, also when another hand has written to it.
func TestWasByAnotherHand(t *testing.T) {
	_, k := storeOf(t, 30)
	v, other := New(k), New(k)
	put(t, v, "a", "1", "b", "2")
	remove(t, v, "c", false)
	remove(t, v, "d", false)
	put(t, other, "a", "1", "b", "3", "c", "4")
	commit(t, other)
	changes(t, v, "b=2", "c")
	commit(t, v)
	scans(t, other, "", "a=1 b=2")
}

// P14.1: each view without a store has one of its own.
func TestOwn(t *testing.T) {
	v, w := New(nil), New(nil)
	put(t, v, "a", "1")
	commit(t, v)
	scans(t, w, "", "")
	put(t, w, "b", "1")
	commit(t, w)
	scans(t, v, "", "a=1")
	scans(t, w, "", "b=1")
}

// P14.1: nothing is written that is as it was.
func TestWritesNothing(t *testing.T) {
	d, k := storeOf(t, 30)
	v := New(k)
	put(t, v, "a", "1", "b", "2")
	commit(t, v)
	before := d.Writes()
	commit(t, v)
	put(t, v, "a", "1", "c", "3", "b", "4", "b", "2")
	remove(t, v, "c", true)
	remove(t, v, "d", false)
	commit(t, v)
	if d.Writes() != before {
		t.Errorf("%d writes", d.Writes()-before)
	}
}

// P14.1: of what no call made; R5: such a view is told of nothing.
func TestUnmade(t *testing.T) {
	for _, v := range []*View{nil, {}} {
		for range 2 {
			gets(t, v, "a", "", false)
			for _, key := range []string{"a", ""} {
				if err := v.Put([]byte(key), []byte("1")); err != api.ErrNil {
					t.Errorf("Put: %d", err)
				}
			}
			remove(t, v, "a", false)
			if v.Scan(nil) != nil {
				t.Error("Scan isn't nil")
			}
			if pairs, keys := v.Changes(); pairs != nil || keys != nil {
				t.Errorf("Changes: %v, %v", pairs, keys)
			}
			if err := v.Commit(); err != api.ErrNil {
				t.Errorf("Commit: %d", err)
			}
			v.Abort()
			has(t, v, api.ErrNil)
		}
	}
}

// R3: what is handed in is neither kept nor changed.
func TestArgumentsAlone(t *testing.T) {
	each(t, func(t *testing.T, v *View) {
		room := []byte("abcdefgh")
		if err := v.Put(room[:1], room[1:2]); err != api.OK {
			t.Fatalf("Put: %d", err)
		}
		v.Delete(room[2:3])
		v.Get(room[:1])
		v.Scan(room[:1])
		if string(room) != "abcdefgh" {
			t.Errorf("%q", room)
		}
		copy(room, "zzzzzzzz")
		scans(t, v, "", "a=b")
		commit(t, v)
		scans(t, v, "", "a=b")
		scans(t, v, "z", "")
	})
}

// R3: what is answered is the caller's; its spare room too.
func TestAnswersAlone(t *testing.T) {
	each(t, func(t *testing.T, v *View) {
		put(t, v, "aa", "bb", "cc", "dd", "ee", "ff")
		spoilAll(v)
		scans(t, v, "", "aa=bb cc=dd ee=ff")
		commit(t, v)
		spoilAll(v)
		scans(t, v, "", "aa=bb cc=dd ee=ff")
		put(t, v, "aa", "gg")
		remove(t, v, "cc", true)
		spoilAll(v)
		changes(t, v, "aa=gg", "cc")
		scans(t, v, "", "aa=gg ee=ff")
		commit(t, v)
		scans(t, v, "", "aa=gg ee=ff")
	})
}

// spoilAll changes all that a view answers.
func spoilAll(v *View) {
	value, _ := v.Get([]byte("aa"))
	spoil(value)
	puts, dels := v.Changes()
	for _, pairs := range [][]api.Pair{v.Scan(nil), puts} {
		for i, p := range pairs {
			spoil(p.Key)
			spoil(p.Value)
			pairs[i] = api.Pair{}
		}
		_ = append(pairs, api.Pair{})
	}
	for i, key := range dels {
		spoil(key)
		dels[i] = nil
	}
}

// spoil changes a list of bytes, and those behind it.
func spoil(b []byte) {
	for i := range b {
		b[i] = 'z'
	}
	for i := len(b); i < cap(b); i++ {
		b = append(b, 'z')
	}
}

// R3: no two lists of one answer share memory.
func TestListsApart(t *testing.T) {
	each(t, func(t *testing.T, v *View) {
		put(t, v, "aa", "bb", "cc", "dd")
		for range 2 {
			pairs := v.Scan(nil)
			spoil(pairs[0].Key)
			spoil(pairs[1].Value)
			if texts(pairs) != "zz=bb cc=zz" {
				t.Errorf("%q", texts(pairs))
			}
			commit(t, v)
		}
	})
}
