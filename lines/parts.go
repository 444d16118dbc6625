package lines

import (
	"iter"

	"limekiln/api"
)

// gather are the lines of items, of which each line has size, made of its own ones by a function.
func gather[T any](items []T, size int, made func([]T) api.Line) ([]api.Line, api.Errno) {
	if len(items)%size != 0 {
		return nil, api.ErrForm
	}
	if len(items)/size > api.MaxLines {
		return nil, api.ErrLong
	}
	all := make([]api.Line, 0, len(items)/size)
	for part := range parts(items, size) {
		all = append(all, made(part))
	}
	return all, api.OK
}

// parts yields items in parts of one size, as long as there is a whole one. No part has room behind it, so that what is put behind one never runs into the next.
func parts[T any](items []T, size int) iter.Seq[[]T] {
	return func(yield func([]T) bool) {
		for i := 0; i+size <= len(items); i += size {
			if !yield(items[i : i+size : i+size]) {
				return
			}
		}
	}
}
