package partial

import "custody/amount"

// rounding is which way a quotient becomes a whole number; the numbers are those of package amount's modes.
type rounding int

const (
	down rounding = iota
	up
)

// share is total part / whole, rounded that way; whole is above 0, and part not above it, so that no share is above the total.
func share(total, part, whole int64, way rounding) int64 {
	n, _ := amount.MulDiv(total, part, whole, int(way))
	return n
}
