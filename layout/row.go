package layout

import (
	"limekiln/api"
)

// row is where things lie one behind the other: the number of the first one's first word, how far it is from one thing to the next, and how many there are.
type row struct {
	first, each, many int
}

// has tells whether there is such a thing.
func (r row) has(n int) bool {
	return n >= 0 && n < r.many
}

// word is the number of a word of a thing that there is.
func (r row) word(n, place int) int {
	return r.first + n*r.each + place
}

// around is the thing among whose words one lies, in a row that rises.
func (r row) around(at int) int {
	if at < r.first || at >= r.first+r.each*r.many {
		return api.None
	}
	return (at - r.first) / r.each
}

// counter makes the function that lays areas one behind the other: it answers where one begins that takes so many.
func counter() func(many int) int {
	next := 0
	return func(many int) int {
		at := next
		next += many
		return at
	}
}

// linesOf is how many lines so many words take.
func linesOf(words int) int {
	return (words + api.LineWords - 1) / api.LineWords
}
