package value

import (
	"math/bits"

	"palimpsest/api"
)

// wide is a whole number of two words, one below 0 as its two's complement. What one step makes of two numbers, or a sum of as many as there can be, is less than 2^127 away from 0, so it is never lost here.
type wide struct{ high, low uint64 }

// reckon tells what an operation makes of two numbers.
func reckon(op, a, b int) (api.Value, api.Errno) {
	switch op {
	case api.XAdd:
		return widen(a).plus(widen(b)).number()
	case api.XSub:
		return widen(a).minus(widen(b)).number()
	case api.XMul:
		return product(a, b).number()
	}
	if b == 0 {
		return api.Value{}, api.ErrZero
	}
	if op == api.XMod {
		return number(a % b), api.OK
	}
	return quotient(a, b).number()
}

// widen tells a number with its sign laid through the high word.
func widen(n int) wide {
	w := wide{low: uint64(n)}
	if n < 0 {
		w.high = ^uint64(0)
	}
	return w
}

func (a wide) plus(b wide) wide {
	low, carry := bits.Add64(a.low, b.low, 0)
	high, _ := bits.Add64(a.high, b.high, carry)
	return wide{high, low}
}

func (a wide) minus(b wide) wide {
	low, borrow := bits.Sub64(a.low, b.low, 0)
	high, _ := bits.Sub64(a.high, b.high, borrow)
	return wide{high, low}
}

// product takes the words of the numbers as they are. A word whose number is below 0 is that number and 2^64, so the product is too great by the other number, one word higher.
func product(a, b int) wide {
	high, low := bits.Mul64(uint64(a), uint64(b))
	if a < 0 {
		high -= uint64(b)
	}
	if b < 0 {
		high -= uint64(a)
	}
	return wide{high, low}
}

// quotient takes a number away from 0 instead of dividing it by -1: that of the least one would wrap round.
func quotient(a, b int) wide {
	if b == -1 {
		return wide{}.minus(widen(a))
	}
	return widen(a / b)
}

// number tells the value; ErrOverflow, if the high word is more than a sign.
func (a wide) number() (api.Value, api.Errno) {
	n := int(a.low)
	if widen(n) != a {
		return api.Value{}, api.ErrOverflow
	}
	return number(n), api.OK
}
