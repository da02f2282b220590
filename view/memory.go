package view

import (
	"slices"
	"strings"

	"exchequer/api"
)

// memory is a store that stands nowhere but in memory; it meets no error.
type memory map[string][]byte

// Get answers the value of a key; false, if it isn't there.
func (m memory) Get(key []byte) ([]byte, bool, api.Errno) {
	value, there := m[string(key)]
	return slices.Clone(value), there, api.OK
}

// Scan answers all pairs whose keys begin with prefix, in any order: the view sorts them.
func (m memory) Scan(prefix []byte) ([]api.Pair, api.Errno) {
	begin := string(prefix)
	var pairs []api.Pair
	for key, value := range m {
		if strings.HasPrefix(key, begin) {
			pairs = append(pairs, pairOf(key, value))
		}
	}
	return pairs, api.OK
}

// Write takes the keys of dels away, then lets those of puts have their values.
func (m memory) Write(puts []api.Pair, dels [][]byte) api.Errno {
	for _, key := range dels {
		delete(m, string(key))
	}
	for _, p := range puts {
		m[string(p.Key)] = slices.Clone(p.Value)
	}
	return api.OK
}
