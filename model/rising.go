package model

import "slices"

// rises tells whether items rise by their keys, none of them there twice.
func rises[T any](items []T, keyOf func(T) uint32) bool {
	for i := 1; i < len(items); i++ {
		if keyOf(items[i-1]) >= keyOf(items[i]) {
			return false
		}
	}
	return true
}

// find is the item of a key, and whether there is one. All items are gone through, so that a key that is there is found in a state that may not be, too.
func find[T any](items []T, key uint32, keyOf func(T) uint32) (T, bool) {
	for _, item := range items {
		if keyOf(item) == key {
			return item, true
		}
	}
	var none T
	return none, false
}

// put puts an item ahead of the first one of a higher key. If its key is there, nothing is put, and what is there is told.
func put[T any](items *[]T, item T, keyOf func(T) uint32) (T, bool) {
	key := keyOf(item)
	had, there := find(*items, key, keyOf)
	if there {
		return had, true
	}
	at := slices.IndexFunc(*items, func(other T) bool {
		return keyOf(other) > key
	})
	if at < 0 {
		at = len(*items)
	}
	*items = slices.Insert(*items, at, item)
	return had, false
}

// cut takes all of a key away, and tells the first of that.
func cut[T any](items *[]T, key uint32, keyOf func(T) uint32) (T, bool) {
	had, there := find(*items, key, keyOf)
	*items = slices.DeleteFunc(*items, func(item T) bool {
		return keyOf(item) == key
	})
	return had, there
}
