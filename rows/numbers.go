package rows

// A small number's bytes have seven bits each; to each but the last one 128 is added. Ten of them hold 64 bits, and the tenth one just the last of these.
const (
	smallBits  = 7
	more       = 1 << smallBits
	smallBytes = 10
	lastTenth  = 1
)

// The kinds of a row's values are told by two bytes of eight bits, of which each value has two.
const (
	byteBits = 8
	kindBits = 2
	kindMask = 1<<kindBits - 1
)

// turned is a number so that those near 0 are small ones, whether above it or below. Below 0 all bits are turned: of 2n that makes -2n - 1.
func turned(n int) uint64 {
	double := uint64(n) << 1
	if n < 0 {
		return ^double
	}
	return double
}

// turnedBack is the number of which turned is this.
func turnedBack(n uint64) int {
	half := int(n >> 1)
	if n&1 == 1 {
		return ^half
	}
	return half
}
