// Package sum is layer 2: sums of 32 bits over bytes and words (CRC-32C).
package sum

const (
	allOnes    = 1<<32 - 1
	polynomial = 0x82f63b78
	byteBits   = 8
	wordBits   = 64
)

// Begin is the state ahead of all bits.
func Begin() uint32 {
	return allOnes
}

// End is the sum behind a state.
func End(state uint32) uint32 {
	return ^state
}

// Byte is the state behind a byte.
func Byte(state uint32, b byte) uint32 {
	return low(state, uint64(b), byteBits)
}

// Word is the state behind a word.
func Word(state uint32, w uint64) uint32 {
	// Eight bytes, the lowest first, have the word's own bits in their order.
	return low(state, w, wordBits)
}

// Bytes is the sum of bytes.
func Bytes(b []byte) uint32 {
	state := Begin()
	for _, x := range b {
		state = Byte(state, x)
	}
	return End(state)
}

// Words is the sum of words.
func Words(l ...uint64) uint32 {
	state := Begin()
	for _, w := range l {
		state = Word(state, w)
	}
	return End(state)
}

// low is the state behind the n lowest bits of w, from the lowest one up.
func low(state uint32, w uint64, n int) uint32 {
	for i := range n {
		state = bit(state, uint32(w>>i)&1)
	}
	return state
}

// bit is the state behind one bit, which is 0 or 1.
func bit(state, b uint32) uint32 {
	kept := state&1 ^ b
	// Minus 1 is all ones, minus 0 none: nothing hangs on a jump.
	return state>>1 ^ polynomial&-kept
}
