package store

const (
	numberSize = 8
	greatest   = 1 << 62
)

// number reads eight bytes; it tells false of one that is greater than any that a store writes.
func number(b []byte) (int, bool) {
	var v uint64
	for _, c := range b[:numberSize] {
		v = v<<8 | uint64(c)
	}
	if v > greatest {
		return 0, false
	}
	return int(v), true
}

func putNumber(b []byte, n int) {
	for i := range numberSize {
		b[i] = byte(uint64(n) >> (8 * (numberSize - 1 - i)))
	}
}
