// Package amount is layer 1: see shared/doc/01-amount.md.
package amount

import (
	"cmp"
	"math/bits"
	"slices"
	"strconv"
	"strings"

	"custody/api"
)

// Whole is any of Go's whole numbers with a sign.
type Whole interface {
	~int | ~int8 | ~int16 | ~int32 | ~int64
}

// Add is a + b, two amounts.
func Add(a, b int64) (int64, error) {
	if a < 0 || b < 0 {
		return 0, api.ErrArg
	}
	if a > api.MaxAmount-b {
		return 0, api.ErrOver
	}
	return a + b, nil
}

// Sub is a - b.
func Sub(a, b int64) (int64, error) {
	if a < 0 || b < 0 {
		return 0, api.ErrArg
	}
	if b > a {
		return 0, api.ErrShort
	}
	return a - b, nil
}

// MulDiv is a times b over c, rounded.
func MulDiv(a, b, c int64, mode int) (int64, error) {
	if a < 0 || b < 0 || c <= 0 || mode < api.Down || mode > api.HalfEven {
		return 0, api.ErrArg
	}
	high, low := bits.Mul64(uint64(a), uint64(b))
	by := uint64(c)
	if high >= by { // Div64 panics where the quotient has no room in 64 bits
		return 0, api.ErrOver
	}
	q, rest := bits.Div64(high, low, by)
	if q > api.MaxAmount { // ahead of rounding, which could wrap q round to 0
		return 0, api.ErrOver
	}
	if roundsUp(q, rest, by, mode) {
		q++
	}
	if q > api.MaxAmount {
		return 0, api.ErrOver
	}
	return int64(q), nil
}

// roundsUp tells whether a quotient q with a rest, over by, is told as q + 1.
func roundsUp(q, rest, by uint64, mode int) bool {
	lacks := by - rest // a half is where both are the same, with nothing doubled that could overflow
	switch mode {
	case api.Up:
		return rest > 0
	case api.HalfUp:
		return rest >= lacks
	case api.HalfEven:
		return rest > lacks || rest == lacks && q%2 == 1
	}
	return false
}

// Sum is the sum of whole numbers of any width.
func Sum[T Whole](l []T) (int64, error) {
	// The sum is kept in 128 bits: what comes on the way may leave 64 bits and come back.
	var high int64
	var low uint64
	for _, x := range l {
		n := int64(x)
		sum, carry := bits.Add64(low, uint64(n), 0)
		low = sum
		high += n>>63 + int64(carry)
	}
	if high != int64(low)>>63 {
		return 0, api.ErrOver
	}
	return int64(low), nil
}

// Split deals n out by weights; the parts are n together.
func Split(n int64, weights []int64) ([]int64, error) {
	if n < 0 || !areWeights(weights) {
		return nil, api.ErrArg
	}
	total, err := Sum(weights)
	if err != nil {
		return nil, err
	}
	parts := make([]int64, len(weights))
	rests := make([]uint64, len(weights))
	left := n
	for i, w := range weights {
		high, low := bits.Mul64(uint64(n), uint64(w))
		q, rest := bits.Div64(high, low, uint64(total)) // at most n, as w is at most total
		parts[i], rests[i] = int64(q), rest
		left -= int64(q)
	}
	// The rests are total times left together, and each is below total: so fewer are left than there are rests above 0.
	for _, i := range byRest(rests)[:left] {
		parts[i]++
	}
	return parts, nil
}

// areWeights tells whether no weight is below 0, and one above.
func areWeights(weights []int64) bool {
	some := false
	for _, w := range weights {
		if w < 0 {
			return false
		}
		some = some || w > 0
	}
	return some
}

// byRest is the places of the rests, the greatest rest first, of equal ones the place ahead.
func byRest(rests []uint64) []int {
	order := make([]int, len(rests))
	for i := range order {
		order[i] = i
	}
	slices.SortFunc(order, func(i, j int) int {
		return cmp.Or(cmp.Compare(rests[j], rests[i]), cmp.Compare(i, j))
	})
	return order
}

// Format is an amount with so many digits behind the point.
func Format(n int64, scale int) (string, error) {
	if n < 0 || !isScale(scale) {
		return "", api.ErrArg
	}
	digits := strconv.FormatInt(n, 10)
	if scale == 0 {
		return digits, nil
	}
	if lacks := scale + 1 - len(digits); lacks > 0 { // one digit stands ahead of the point
		digits = strings.Repeat("0", lacks) + digits
	}
	point := len(digits) - scale
	return digits[:point] + "." + digits[point:], nil
}

// Parse reads what Format writes, and more.
func Parse(s string, scale int) (int64, error) {
	if !isScale(scale) {
		return 0, api.ErrArg
	}
	behind, ok := numeral(s)
	if !ok {
		return 0, api.ErrText
	}
	if behind > scale {
		return 0, api.ErrLong
	}
	var n int64
	for i := range len(s) {
		if s[i] == '.' {
			continue
		}
		if n, ok = appendDigit(n, int64(s[i]-'0')); !ok {
			return 0, api.ErrOver
		}
	}
	for range scale - behind {
		if n, ok = appendDigit(n, 0); !ok {
			return 0, api.ErrOver
		}
	}
	return n, nil
}

// isScale tells whether an amount can have so many digits behind the point.
func isScale(scale int) bool { return scale >= 0 && scale <= api.MaxScale }

// numeral tells how many digits stand behind the point of s, or that s is no numeral.
func numeral(s string) (int, bool) {
	digits, points, behind := 0, 0, 0
	for i := range len(s) {
		switch c := s[i]; {
		case c == '.':
			points++
		case c < '0' || c > '9':
			return 0, false
		default:
			digits++
			behind += points
		}
	}
	if digits == 0 || points > 1 {
		return 0, false
	}
	return behind, true
}

// appendDigit is n with one digit more at its end, or false where that is above MaxAmount.
func appendDigit(n, digit int64) (int64, bool) {
	if n > (api.MaxAmount-digit)/10 {
		return 0, false
	}
	return n*10 + digit, true
}
