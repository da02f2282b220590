package layout

import (
	"math"
	"testing"

	"exchequer/api"
)

// rightSizes are numbers of sectors with the pages that a disk of them has.
var rightSizes = []struct{ sectors, pages int }{
	{3, 1}, {4, 1}, {5, 2}, {6, 2}, {7, 3}, {8, 3}, {9, 4}, {10, 4},
	{255, 127}, {256, 127}, {257, 128}, {1000, 499},
	{api.MaxSectors - 2, 32766}, {api.MaxSectors - 1, 32767}, {api.MaxSectors, 32767},
}

var wrongSizes = []int{
	math.MinInt, math.MinInt + 1, -1 << 32, -api.MaxSectors, -9, -3, -2, -1, 0, 1, 2,
	api.MaxSectors + 1, api.MaxSectors + 2, 2 * api.MaxSectors, 1 << 32, 1<<32 + 9, math.MaxInt - 1, math.MaxInt,
}

// P5.1
func TestPages(t *testing.T) {
	for _, c := range rightSizes {
		if got := Pages(c.sectors); got != c.pages {
			t.Errorf("Pages(%d): %d, not %d", c.sectors, got, c.pages)
		}
	}
	for _, sectors := range wrongSizes {
		if got := Pages(sectors); got != 0 {
			t.Errorf("Pages(%d): %d", sectors, got)
		}
	}
}

// P5.1
func TestMark(t *testing.T) {
	if Mark() != 0 {
		t.Errorf("Mark: %d", Mark())
	}
}

// P5.1: a slot and a home for each page.
func TestSlotAndHome(t *testing.T) {
	for _, c := range rightSizes {
		for i := range c.pages {
			if at, ok := Slot(c.sectors, i); at != i+1 || !ok {
				t.Fatalf("Slot(%d, %d): %d, %v", c.sectors, i, at, ok)
			}
			if at, ok := Home(c.sectors, i); at != i+1+c.pages || !ok {
				t.Fatalf("Home(%d, %d): %d, %v", c.sectors, i, at, ok)
			}
		}
	}
}

// P5.1, R2: neither slot nor home of what is no page, and none on what is no disk.
func TestNeitherSlotNorHome(t *testing.T) {
	for _, c := range rightSizes {
		for _, i := range []int{math.MinInt, -c.pages, -1, c.pages, c.pages + 1, c.sectors, 1<<32 + c.pages, math.MaxInt - 1, math.MaxInt} {
			hasNeither(t, c.sectors, i)
		}
	}
	for _, sectors := range wrongSizes {
		for _, i := range []int{math.MinInt, -1, 0, 1, 2, 100, math.MaxInt} {
			hasNeither(t, sectors, i)
		}
	}
}

func hasNeither(t *testing.T, sectors, i int) {
	t.Helper()
	if at, ok := Slot(sectors, i); at != 0 || ok {
		t.Errorf("Slot(%d, %d): %d, %v", sectors, i, at, ok)
	}
	if at, ok := Home(sectors, i); at != 0 || ok {
		t.Errorf("Home(%d, %d): %d, %v", sectors, i, at, ok)
	}
}

// P5.2
func TestAllUnlike(t *testing.T) {
	for sectors := 3; sectors <= 300; sectors++ {
		areUnlike(t, sectors)
	}
	for sectors := api.MaxSectors - 3; sectors <= api.MaxSectors; sectors++ {
		areUnlike(t, sectors)
	}
}

func areUnlike(t *testing.T, sectors int) {
	t.Helper()
	seen := map[int]bool{}
	take := func(at int, ok bool) {
		if !ok || at < 0 || at >= sectors || seen[at] {
			t.Fatalf("of %d sectors: sector %d, %v, seen %v", sectors, at, ok, seen[at])
		}
		seen[at] = true
	}
	take(Mark(), true)
	for i := range Pages(sectors) {
		take(Slot(sectors, i))
		take(Home(sectors, i))
	}
	if left := sectors - len(seen); left > 1 {
		t.Errorf("of %d sectors %d are for nothing", sectors, left)
	}
}
