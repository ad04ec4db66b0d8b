package cycle

import (
	"math/bits"

	"custody/api"
)

// wide is a number of 128 bits, with a sign: however many amounts the wishes have, their sums stay in its bounds.
type wide struct {
	high int64
	low  uint64
}

// widened is a number of 64 bits as a wide one: its sign fills the high word.
func widened(n int64) wide { return wide{n >> 63, uint64(n)} }

// narrowed is the same number in 64 bits; false, if it is beyond them.
func (w wide) narrowed() (int64, bool) {
	n := int64(w.low)
	return n, widened(n) == w
}

func (w wide) plus(v wide) wide {
	low, carry := bits.Add64(w.low, v.low, 0)
	return wide{w.high + v.high + int64(carry), low}
}

func (w wide) isBelowNought() bool { return w.high < 0 }

func (w wide) isAboveNought() bool { return w.high > 0 || w.high == 0 && w.low > 0 }

// isTooMuch tells whether it is above the greatest amount.
func (w wide) isTooMuch() bool { return w.high > 0 || w.high == 0 && w.low > api.MaxAmount }
