package pdev

import (
	"cmp"
	"slices"
)

// set is an ordered set: its items rise, and each of them is there once.
type set[T cmp.Ordered] struct {
	items []T
}

// add puts an item into the set, if it is not there.
func (s *set[T]) add(item T) {
	at, there := slices.BinarySearch(s.items, item)
	if !there {
		s.items = slices.Insert(s.items, at, item)
	}
}
