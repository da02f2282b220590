package ext

import (
	"exchequer/api"
	"exchequer/dir"
)

// take answers a page that is in no use: a free one, or the first that was never used.
func (c *change) take() (int, api.Errno) {
	page := c.will.Free
	if page == 0 {
		return c.takeNew()
	}
	next, err := dir.Get(c.Pager, link(page), 0)
	if err != api.OK {
		return 0, err
	}
	c.will.Free = next
	return page, api.OK
}

func (c *change) takeNew() (int, api.Errno) {
	page := c.will.Next
	if page >= c.Pages() {
		return 0, api.ErrFull
	}
	c.will.Next++
	return page, api.OK
}

// free lets a page be in no use any more. It may not be taken in the same change, for only finish links it.
func (c *change) free(page int) {
	next := c.will.Free
	c.will.Free = page
	c.then(func() api.Errno { return dir.Set(c.Pager, link(page), 0, next) })
}

// link answers a directory of this page alone. Its only slot is the first 4 bytes, where a free page has the next one.
func link(page int) api.Meta {
	return api.Meta{Dir: []int{page}}
}
