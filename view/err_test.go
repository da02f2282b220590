package view

import (
	"strings"
	"testing"

	"exchequer/api"
	"exchequer/disk"
	"exchequer/kv"
)

// down lets a disk go down.
func down(d *disk.Disk) {
	d.Arm(0)
	d.Write(0, make([]byte, api.Sector))
}

// begun answers a view with some keys that are committed, and its disk.
func begun(t *testing.T) (*disk.Disk, *View) {
	t.Helper()
	d, k := storeOf(t, 30)
	v := New(k)
	put(t, v, "a", "1", "b", "2")
	commit(t, v)
	return d, v
}

// P14.1: each call that asks the store may meet its error; Get and Scan tell nothing then, till Abort.
func TestErrOfEachCall(t *testing.T) {
	for _, c := range []struct {
		name string
		call func(t *testing.T, v *View)
	}{
		{"Get", func(t *testing.T, v *View) { gets(t, v, "a", "", false) }},
		{"Get of what isn't there", func(t *testing.T, v *View) { gets(t, v, "q", "", false) }},
		{"Scan", func(t *testing.T, v *View) { scans(t, v, "", "") }},
		{"Delete", func(t *testing.T, v *View) { remove(t, v, "b", false) }},
		{"Changes", func(t *testing.T, v *View) { changes(t, v, "", "") }},
		{"Commit", func(t *testing.T, v *View) {
			if err := v.Commit(); err != api.ErrDown {
				t.Errorf("Commit: %d", err)
			}
		}},
	} {
		d, v := begun(t)
		put(t, v, "c", "3")
		down(d)
		has(t, v, api.OK)
		c.call(t, v)
		has(t, v, api.ErrDown)
		quiet(t, v)
		// The disk's coming up alone doesn't end it.
		d.Crash(nil)
		has(t, v, api.ErrDown)
		quiet(t, v)
		if err := v.Commit(); err != api.ErrDown {
			t.Errorf("%s: Commit: %d", c.name, err)
		}
		v.Abort()
		has(t, v, api.OK)
		scans(t, v, "", "a=1 b=2")
		changes(t, v, "", "")
		put(t, v, "c", "4")
		commit(t, v)
		scans(t, v, "", "a=1 b=2 c=4")
		if t.Failed() {
			t.Fatalf("behind %s", c.name)
		}
	}
}

// quiet looks whether Get and Scan tell nothing, also of what was Put.
func quiet(t *testing.T, v *View) {
	t.Helper()
	for _, key := range []string{"a", "c", "q"} {
		gets(t, v, key, "", false)
	}
	if v.Scan(nil) != nil || v.Scan([]byte("c")) != nil {
		t.Error("Scan tells something")
	}
}

// P14.1: what doesn't ask the store meets no error.
func TestNotAsked(t *testing.T) {
	d, v := begun(t)
	put(t, v, "c", "3")
	remove(t, v, "b", true)
	down(d)
	put(t, v, "d", "4", "e", "5")
	gets(t, v, "c", "3", true)
	gets(t, v, "d", "4", true)
	gets(t, v, "b", "", false)
	remove(t, v, "e", true)
	if err := v.Put(nil, nil); err != api.ErrArg {
		t.Errorf("Put: %d", err)
	}
	has(t, v, api.OK)
	d.Crash(nil)
	scans(t, v, "", "a=1 c=3 d=4")
	commit(t, v)
	scans(t, v, "", "a=1 c=3 d=4")
}

// P14.1: behind an error Put is told as ever, and what a Delete couldn't ask is not changed (R2).
func TestChangesBehindErr(t *testing.T) {
	d, v := begun(t)
	down(d)
	remove(t, v, "b", false)
	put(t, v, "c", "3")
	if err := v.Put(nil, nil); err != api.ErrArg {
		t.Errorf("Put: %d", err)
	}
	d.Crash(nil)
	has(t, v, api.ErrDown)
	changes(t, v, "c=3", "")
	v.Abort()
	scans(t, v, "", "a=1 b=2")
}

// P14.1: the first error counts, till Abort.
func TestFirstErr(t *testing.T) {
	d, k := storeOf(t, 3)
	v := New(k)
	value := strings.Repeat("v", 120)
	put(t, v, "a", value, "b", value)
	if err := v.Commit(); err != api.ErrFull {
		t.Fatalf("Commit: %d", err)
	}
	has(t, v, api.ErrFull)
	down(d)
	changes(t, v, "", "")
	has(t, v, api.ErrFull)
	if err := v.Commit(); err != api.ErrFull {
		t.Errorf("Commit: %d", err)
	}
	v.Abort()
	gets(t, v, "a", "", false)
	has(t, v, api.ErrDown)
}

// P14.1: a Commit without room leaves all changes as they were, and the store too.
func TestFull(t *testing.T) {
	_, k := storeOf(t, 3)
	v := New(k)
	value := strings.Repeat("v", 100)
	put(t, v, "a", "1", "b", "2")
	commit(t, v)
	put(t, v, "c", value, "d", value, "e", value)
	remove(t, v, "a", true)
	want := "c=" + value + " d=" + value + " e=" + value
	for range 2 {
		changes(t, v, want, "a")
		if err := v.Commit(); err != api.ErrFull {
			t.Fatalf("Commit: %d", err)
		}
		has(t, v, api.ErrFull)
		gets(t, v, "b", "", false)
		gets(t, v, "c", "", false)
		scans(t, v, "", "")
	}
	changes(t, v, want, "a")
	scans(t, New(k), "", "a=1 b=2")
	v.Abort()
	has(t, v, api.OK)
	changes(t, v, "", "")
	scans(t, v, "", "a=1 b=2")
	put(t, v, "c", value)
	commit(t, v)
	scans(t, v, "", "a=1 b=2 c="+value)
}

// P14.1, P14.2: a disk that goes down in a Commit; the store then has all of it, or nothing, and the view tells the error for ever.
func TestDownInCommit(t *testing.T) {
	for n := 0; ; n++ {
		d, v := begun(t)
		put(t, v, "c", "3", "a", "4")
		remove(t, v, "b", true)
		d.Arm(n)
		err := v.Commit()
		if err == api.OK {
			changes(t, v, "", "")
			scans(t, v, "", "a=4 c=3")
			return
		}
		if err != api.ErrDown {
			t.Fatalf("Commit: %d", err)
		}
		has(t, v, api.ErrDown)
		d.Crash(nil)
		v.Abort()
		has(t, v, api.OK)
		gets(t, v, "a", "", false)
		has(t, v, api.ErrDown)
		k, err := kv.Open(d)
		if err != api.OK {
			t.Fatalf("Open: %d", err)
		}
		if got := texts(New(k).Scan(nil)); got != "a=1 b=2" && got != "a=4 c=3" {
			t.Errorf("write %d: %q", n, got)
		}
	}
}

// P14.1: a store that no call made has its error.
func TestOfUnmadeStore(t *testing.T) {
	v := New(&kv.KV{})
	has(t, v, api.OK)
	put(t, v, "a", "1")
	gets(t, v, "a", "1", true)
	gets(t, v, "b", "", false)
	has(t, v, api.ErrNil)
	gets(t, v, "a", "", false)
	v.Abort()
	has(t, v, api.OK)
	if err := v.Commit(); err != api.ErrNil {
		t.Errorf("Commit: %d", err)
	}
}
