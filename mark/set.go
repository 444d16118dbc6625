package mark

// rowLong is how many numbers a row of a set has.
const rowLong = 64

// number is what a set may have.
type number interface {
	~int | ~int32 | ~int64 | ~uint | ~uint32 | ~uint64
}

// set is a set of numbers from 0 on. They are kept in rows, a bit each, so that even the slots of the greatest store take little room.
type set[N number] struct {
	rows []uint64
}

// newSet is a set of none of so many numbers.
func newSet[N number](many N) set[N] {
	return set[N]{rows: make([]uint64, (many+rowLong-1)/rowLong)}
}

// put puts a number into the set, and tells whether it was not there.
func (s *set[N]) put(n N) bool {
	row, bit := &s.rows[n/rowLong], uint64(1)<<(n%rowLong)
	fresh := *row&bit == 0
	*row |= bit
	return fresh
}
