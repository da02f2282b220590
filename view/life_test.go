package view

import (
	"maps"
	"slices"
	"strconv"
	"strings"
	"testing"
)

// life is a view beside the tables that it must be as.
type life struct {
	t    *testing.T
	v    *View
	old  map[string]string // what was committed
	now  map[string]string
	seed uint32
}

// below answers a number from 0 to n less 1; the same numbers in each run.
func (l *life) below(n int) int {
	l.seed = l.seed*1664525 + 1013904223
	return int(l.seed>>8) % n
}

func (l *life) key() string { return strconv.Itoa(l.below(130)) }

func (l *life) step() {
	key := l.key()
	switch n := l.below(30); {
	case n < 14:
		value := strings.Repeat("v", l.below(4))
		put(l.t, l.v, key, value)
		l.now[key] = value
	case n < 24:
		_, want := l.now[key]
		remove(l.t, l.v, key, want)
		delete(l.now, key)
	case n < 26:
		scans(l.t, l.v, key[:1], tableText(l.now, key[:1]))
	case n < 28:
		l.changes()
	case n < 29:
		l.v.Abort()
		l.now = maps.Clone(l.old)
	default:
		commit(l.t, l.v)
		l.old = maps.Clone(l.now)
	}
	want, there := l.now[key]
	gets(l.t, l.v, key, want, there)
}

// changes holds Changes against what is unlike in both tables.
func (l *life) changes() {
	put := map[string]string{}
	for key, value := range l.now {
		if was, ok := l.old[key]; !ok || was != value {
			put[key] = value
		}
	}
	var gone []string
	for key := range l.old {
		if _, ok := l.now[key]; !ok {
			gone = append(gone, key)
		}
	}
	slices.Sort(gone)
	changes(l.t, l.v, tableText(put, ""), strings.Join(gone, " "))
}

// tableText answers the keys with a prefix and their values as texts does, rising.
func tableText(table map[string]string, prefix string) string {
	var all []string
	for _, key := range slices.Sorted(maps.Keys(table)) {
		if strings.HasPrefix(key, prefix) {
			all = append(all, key+"="+table[key])
		}
	}
	return strings.Join(all, " ")
}

// P14.1, P14.2: a long life, on a disk and in memory.
func TestLife(t *testing.T) {
	each(t, func(t *testing.T, v *View) {
		l := &life{t: t, v: v, old: map[string]string{}, now: map[string]string{}, seed: 14}
		for range 4000 {
			l.step()
			if t.Failed() {
				return
			}
		}
		scans(t, v, "", tableText(l.now, ""))
	})
}
