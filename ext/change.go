package ext

import (
	"slices"

	"exchequer/api"
	"exchequer/bucket"
	"exchequer/dir"
	"exchequer/hash"
	"exchequer/meta"
)

// change is what a call will do to a store's pages. Until finish it only reads them, and gathers steps: with an error nothing has changed.
type change struct {
	*Store
	was, will api.Meta
	slots     map[int]int // what the directory will have otherwise
	steps     []func() api.Errno
}

// changeOf answers a change of a store with this Meta.
func (s *Store) changeOf(m api.Meta) *change {
	c := &change{Store: s, was: m, will: m, slots: map[int]int{}}
	c.will.Dir = slices.Clone(m.Dir)
	return c
}

// inTurn does steps, up to the first error.
func inTurn(steps ...func() api.Errno) api.Errno {
	for _, step := range steps {
		if err := step(); err != api.OK {
			return err
		}
	}
	return api.OK
}

// then adds a step that finish is to do.
func (c *change) then(step func() api.Errno) {
	c.steps = append(c.steps, step)
}

// finish does what was gathered.
func (c *change) finish() api.Errno {
	if !meta.Same(c.was, c.will) {
		data, err := meta.Put(c.will)
		if err != api.OK {
			return err
		}
		c.lay(metaPage, data)
	}
	return inTurn(c.steps...)
}

// lay lets a page have these bytes.
func (c *change) lay(page int, data []byte) {
	c.then(func() api.Errno { return c.Set(page, data) })
}

// keep lets a leaf's page have its bucket.
func (c *change) keep(l leaf) api.Errno {
	data, err := bucket.Put(l.Bucket)
	if err != api.OK {
		return err
	}
	c.lay(l.page, data)
	return api.OK
}

// put lets a key have a value, in the bucket where it stands, if that has the room.
func (c *change) put(pair api.Pair) api.Errno {
	chain, err := c.chainOf(c.will, pair.Key)
	if err != api.OK {
		return err
	}
	at, i := find(chain, pair.Key)
	if i < 0 {
		c.will.Count++
		return c.add(chain, pair)
	}
	chain[at] = chain[at].without(i)
	if l := chain[at].with(pair); l.fits() {
		return c.keep(l)
	}
	// It isn't empty, for a pair alone fits: it needn't be let go.
	if err := c.keep(chain[at]); err != api.OK {
		return err
	}
	return c.add(chain, pair)
}

// add puts a pair into the first bucket of a chain that has room; without any the chain is made longer, or parted.
func (c *change) add(chain []leaf, pair api.Pair) api.Errno {
	for {
		for _, l := range chain {
			if l = l.with(pair); l.fits() {
				return c.keep(l)
			}
		}
		if chain[0].Depth == api.MaxDepth {
			return c.follow(chain[len(chain)-1], pair)
		}
		half, err := c.part(chain[0], hash.Of(pair.Key))
		if err != api.OK {
			return err
		}
		chain = []leaf{half}
	}
}

// follow puts a pair into a new bucket behind the last one of a chain.
func (c *change) follow(last leaf, pair api.Pair) api.Errno {
	page, err := c.take()
	if err != api.OK {
		return err
	}
	last.Next = page
	if err := c.keep(last); err != api.OK {
		return err
	}
	next := leaf{page, api.Bucket{Depth: last.Depth}}
	return c.keep(next.with(pair))
}

// part parts a bucket into two, and answers that of the hash h, which isn't kept yet, for it may be parted again.
func (c *change) part(l leaf, h uint32) (leaf, api.Errno) {
	// None follows one that may still be parted.
	if l.Next != 0 {
		return leaf{}, api.ErrForm
	}
	if l.Depth == c.will.Depth {
		if err := c.double(); err != api.OK {
			return leaf{}, err
		}
	}
	page, err := c.take()
	if err != api.OK {
		return leaf{}, err
	}
	low, high := l.halves(page)
	if err := c.repoint(hash.Slot(h, l.Depth)+1<<l.Depth, low, high); err != api.OK {
		return leaf{}, err
	}
	if isHigh(h, l.Depth) {
		return high, c.keep(low)
	}
	return low, c.keep(high)
}

// repoint lets the slots with the low bits of first, that were the lower half's, be the higher one's.
func (c *change) repoint(first int, low, high leaf) api.Errno {
	for slot := first; slot < 1<<c.will.Depth; slot += 1 << high.Depth {
		page, err := c.pageOf(slot)
		if err != api.OK {
			return err
		}
		if page != low.page {
			return api.ErrForm
		}
		c.point(slot, high.page)
	}
	return api.OK
}

// double makes the directory one of twice as many slots: the new ones have what those with the same low bits have.
func (c *change) double() api.Errno {
	slots := 1 << c.will.Depth
	c.will.Depth++
	if err := c.lengthen(); err != api.OK {
		return err
	}
	for slot := range slots {
		page, err := c.pageOf(slot)
		if err != api.OK {
			return err
		}
		c.point(slots+slot, page)
	}
	return api.OK
}

// lengthen takes as many pages for the directory as it needs.
func (c *change) lengthen() api.Errno {
	for len(c.will.Dir) < dir.Need(c.will.Depth) {
		page, err := c.take()
		if err != api.OK {
			return err
		}
		c.will.Dir = append(c.will.Dir, page)
		c.lay(page, make([]byte, api.Page))
	}
	return api.OK
}

// point lets the directory have a page for a slot.
func (c *change) point(slot, page int) {
	c.slots[slot] = page
	c.then(func() api.Errno { return dir.Set(c.Pager, c.will, slot, page) })
}

// pageOf answers the page that the directory will have for a slot.
func (c *change) pageOf(slot int) (int, api.Errno) {
	if page, ok := c.slots[slot]; ok {
		return page, api.OK
	}
	return dir.Get(c.Pager, c.was, slot)
}

// remove takes a key away, and tells whether it was there.
func (c *change) remove(key []byte) (bool, api.Errno) {
	chain, err := c.chainOf(c.will, key)
	if err != api.OK {
		return false, err
	}
	at, i := find(chain, key)
	if i < 0 {
		return false, api.OK
	}
	c.will.Count--
	l := chain[at].without(i)
	if at > 0 && len(l.Pairs) == 0 {
		before := chain[at-1]
		before.Next = l.Next
		c.free(l.page)
		l = before
	}
	return true, c.keep(l)
}
