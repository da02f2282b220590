package ext

import (
	"slices"

	"exchequer/api"
	"exchequer/bucket"
	"exchequer/dir"
	"exchequer/hash"
)

// leaf is a bucket with the page on which it stands. A leaf and those that follow it are a chain.
type leaf struct {
	page int
	api.Bucket
}

// with answers l with one pair more.
func (l leaf) with(pair api.Pair) leaf {
	l.Pairs = append(slices.Clip(l.Pairs), pair)
	return l
}

// without answers l with the pair at place i left out.
func (l leaf) without(i int) leaf {
	l.Pairs = slices.Delete(slices.Clone(l.Pairs), i, i+1)
	return l
}

// fits tells whether l's page has room for it.
func (l leaf) fits() bool {
	return bucket.Fits(l.Bucket)
}

// halves answers l's pairs by the next bit of their hashes: those where it is 0 stay on l's page, the others come on another.
func (l leaf) halves(other int) (low, high leaf) {
	deeper := api.Bucket{Depth: l.Depth + 1}
	low, high = leaf{l.page, deeper}, leaf{other, deeper}
	for _, pair := range l.Pairs {
		if isHigh(hash.Of(pair.Key), l.Depth) {
			high = high.with(pair)
		} else {
			low = low.with(pair)
		}
	}
	return low, high
}

// isHigh tells whether the bit behind h's lowest depth ones is 1.
func isHigh(h uint32, depth int) bool {
	return hash.Slot(h, depth+1) != hash.Slot(h, depth)
}

// leafAt answers the bucket on a page.
func (s *Store) leafAt(page int) (leaf, api.Errno) {
	data, err := s.Pager.Get(page)
	if err != api.OK {
		return leaf{}, err
	}
	b, err := bucket.Parse(data)
	if err != api.OK {
		return leaf{}, err
	}
	return leaf{page, b}, api.OK
}

// chainAt answers the buckets of a slot. Pages of another hand could lead in a circle: more than most are refused.
func (s *Store) chainAt(m api.Meta, slot, most int) ([]leaf, api.Errno) {
	page, err := dir.Get(s.Pager, m, slot)
	if err != api.OK {
		return nil, err
	}
	var chain []leaf
	for range most {
		l, err := s.leafAt(page)
		if err != api.OK {
			return nil, err
		}
		if l.Depth > m.Depth {
			return nil, api.ErrForm
		}
		chain = append(chain, l)
		if l.Next == 0 {
			return chain, api.OK
		}
		page = l.Next
	}
	return nil, api.ErrForm
}

// chainOf answers the buckets in one of which a key stands, if it is there.
func (s *Store) chainOf(m api.Meta, key []byte) ([]leaf, api.Errno) {
	return s.chainAt(m, hash.Slot(hash.Of(key), m.Depth), s.Pages())
}
