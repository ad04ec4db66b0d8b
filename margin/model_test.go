package margin_test

import (
	"math"
	"math/big"
	"slices"
	"sort"
	"strconv"
	"strings"
	"testing"

	"custody/api"
	"custody/proof"
)

// The second reckoning does each step with a point exactly, by fractions, and rounds it by itself; where a number isn't finite nothing is rounded, and the machine's step is taken.

func isFinite(x float64) bool { return !math.IsNaN(x) && !math.IsInf(x, 0) }

func fraction(x float64) *big.Rat { return new(big.Rat).SetFloat64(x) }

// nearest is the number that is nearest to a fraction; below0 is the sign of a 0.
func nearest(x *big.Rat, below0 bool) float64 {
	if x.Sign() != 0 {
		below0 = x.Sign() < 0
	}
	n, _ := x.Float64()
	if below0 {
		return -math.Abs(n)
	}
	return math.Abs(n)
}

func plus(x, y float64) float64 {
	if !isFinite(x) || !isFinite(y) {
		return x + y
	}
	return nearest(new(big.Rat).Add(fraction(x), fraction(y)), math.Signbit(x) && math.Signbit(y))
}

func less(x, y float64) float64 { return plus(x, -y) }

func times(x, y float64) float64 {
	if !isFinite(x) || !isFinite(y) {
		return x * y
	}
	return nearest(new(big.Rat).Mul(fraction(x), fraction(y)), math.Signbit(x) != math.Signbit(y))
}

func over(x, y float64) float64 {
	if !isFinite(x) || !isFinite(y) || y == 0 {
		return x / y
	}
	return nearest(new(big.Rat).Quo(fraction(x), fraction(y)), math.Signbit(x) != math.Signbit(y))
}

// root is rounded to 300 bits first: no root of a number with 53 bits lies so near to the middle between two others.
func root(x float64) float64 {
	if !isFinite(x) || x <= 0 {
		return math.Sqrt(x)
	}
	n, _ := new(big.Float).Sqrt(new(big.Float).SetPrec(300).SetFloat64(x)).Float64()
	return n
}

// TestSteps holds the second reckoning's steps against the machine's.
func TestSteps(t *testing.T) {
	d := proof.Dice(2500)
	var notFinite, noughts int
	for range 100000 {
		x, y := throwNumber(&d), throwNumber(&d)
		for _, s := range [][2]float64{{plus(x, y), x + y}, {less(x, y), x - y}, {times(x, y), x * y}, {over(x, y), x / y}, {root(math.Abs(x)), math.Sqrt(math.Abs(x))}} {
			if s[0] == 0 {
				noughts++
			}
			if !isFinite(s[0]) {
				notFinite++
			}
			if math.IsNaN(s[0]) && math.IsNaN(s[1]) {
				continue
			}
			if !sameBits(s[0], s[1]) {
				t.Fatalf("a step of %v and %v is %v, not %v", x, y, s[0], s[1])
			}
		}
	}
	if notFinite < 1000 || noughts < 1000 {
		t.Errorf("%d steps weren't finite, and %d were 0", notFinite, noughts)
	}
}

// answer is a number, or beside an error nothing.
func answer(x float64) (float64, api.Errno) {
	if !isFinite(x) {
		return 0, api.ErrOver
	}
	return x, api.OK
}

func rowAgain(l []float64, most int) api.Errno {
	switch {
	case len(l) > most:
		return api.ErrMany
	case len(l) == 0:
		return api.ErrShort
	}
	for _, x := range l {
		if !isFinite(x) {
			return api.ErrArg
		}
	}
	return api.OK
}

func returnsAgain(l []api.Quote) ([]float64, api.Errno) {
	if len(l) > 4096 {
		return nil, api.ErrMany
	}
	if len(l) < 2 {
		return nil, api.ErrShort
	}
	var out []float64
	for i, q := range l {
		if !(isFinite(q.Price) && q.Price > 0) {
			return nil, api.ErrArg
		}
		if i == 0 {
			continue
		}
		if q.Day <= l[i-1].Day {
			return nil, api.ErrDate
		}
		x := over(q.Price, l[i-1].Price)
		if math.IsInf(x, 0) {
			return nil, api.ErrOver
		}
		out = append(out, less(x, 1))
	}
	return out, api.OK
}

func meanAgain(l []float64) (float64, api.Errno) {
	if no := rowAgain(l, 4096); no != api.OK {
		return 0, no
	}
	sum := 0.0
	for _, x := range l {
		sum = plus(sum, x)
	}
	return answer(over(sum, float64(len(l))))
}

func deviationAgain(l []float64) (float64, api.Errno) {
	m, no := meanAgain(l)
	if no != api.OK {
		return 0, no
	}
	s := 0.0
	for _, x := range l {
		s = plus(s, times(less(x, m), less(x, m)))
	}
	return answer(root(over(s, float64(len(l)))))
}

func smoothAgain(l []float64, fade float64) (float64, api.Errno) {
	if no := rowAgain(l, 4096); no != api.OK {
		return 0, no
	}
	if math.IsNaN(fade) || fade < 0 || fade > 1 {
		return 0, api.ErrArg
	}
	var v float64
	for i, x := range l {
		if i == 0 {
			v = times(x, x)
		} else {
			v = plus(times(fade, v), times(less(1, fade), times(x, x)))
		}
		if !isFinite(v) {
			return 0, api.ErrOver
		}
	}
	return root(v), api.OK
}

func haircutAgain(volatility float64, days, floor int) (int, api.Errno) {
	if !isFinite(volatility) || volatility < 0 || days < 0 || floor < 0 || floor > 10000 {
		return 0, api.ErrArg
	}
	x := times(times(volatility, root(float64(days))), 10000)
	for n := floor; n < 10000; n++ {
		if float64(n) >= x {
			return n, api.OK
		}
	}
	return 10000, api.OK
}

func betaAgain(a, b []float64) (float64, api.Errno) {
	if len(a) != len(b) {
		return 0, api.ErrArg
	}
	m, no := meanAgain(a)
	if no != api.OK {
		return 0, no
	}
	n, no := meanAgain(b)
	if no != api.OK {
		return 0, no
	}
	c, v := 0.0, 0.0
	for i := range a {
		d, e := less(a[i], m), less(b[i], n)
		c, v = plus(c, times(d, e)), plus(v, times(e, e))
	}
	if !isFinite(c) || !isFinite(v) {
		return 0, api.ErrOver
	}
	if v == 0 {
		return 0, api.ErrLost
	}
	return answer(over(c, v))
}

// point is a number of two parts.
type point struct{ p, q float64 }

func (x point) plus(y point) point { return point{plus(x.p, y.p), plus(x.q, y.q)} }

func (x point) less(y point) point { return point{less(x.p, y.p), less(x.q, y.q)} }

func (x point) times(y point) point {
	return point{less(times(x.p, y.p), times(x.q, y.q)), plus(times(x.p, y.q), times(x.q, y.p))}
}

// turnAgain is the root r(n).
func turnAgain(n int) point {
	switch n {
	case 2:
		return point{-1, 0}
	case 4:
		return point{0, -1}
	}
	a := turnAgain(n / 2).p
	return point{root(over(plus(1, a), 2)), -root(over(less(1, a), 2))}
}

// spectrumAgain joins halves from the smallest on, in a list where each number stands at its place with the digits turned about: there those of an even place stand ahead of those of an odd one, over and over.
func spectrumAgain(l []float64) ([]complex128, api.Errno) {
	if no := rowAgain(l, 1024); no != api.OK {
		return nil, no
	}
	n, digits := 1, 0
	for n < len(l) {
		n, digits = 2*n, digits+1
	}
	if n != len(l) {
		return nil, api.ErrArg
	}
	row := make([]point, n)
	for i, x := range l {
		at := 0
		for digit := range digits {
			at |= i >> digit & 1 << (digits - 1 - digit)
		}
		row[at] = point{x, 0}
	}
	for half := 1; half < n; half *= 2 {
		w, r := point{1, 0}, turnAgain(2*half)
		for k := range half {
			for at := k; at < n; at += 2 * half {
				x, t := row[at], w.times(row[at+half])
				row[at], row[at+half] = x.plus(t), x.less(t)
			}
			w = w.times(r)
		}
	}
	var out []complex128
	for _, x := range row {
		if !isFinite(x.p) || !isFinite(x.q) {
			return nil, api.ErrOver
		}
		out = append(out, complex(x.p, x.q))
	}
	return out, api.OK
}

func periodAgain(l []float64) (int, api.Errno) {
	s, no := spectrumAgain(l)
	if no != api.OK {
		return 0, no
	}
	best, at := 0.0, 0
	for k := 1; k <= len(l)/2; k++ {
		p, q := real(s[k]), imag(s[k])
		power := plus(times(p, p), times(q, q))
		if !isFinite(power) {
			return 0, api.ErrOver
		}
		if power > best {
			best, at = power, k
		}
	}
	if at == 0 {
		return 0, api.ErrLost
	}
	return at, api.OK
}

// valueAgain writes the product out, and strikes the digits behind the point.
func valueAgain(p api.Pool, scale int) (int64, api.Errno) {
	switch {
	case scale < 0 || scale > 18:
		return 0, api.ErrArg
	case p.Qty < 0 || p.Price < 0:
		return 0, api.ErrAmount
	case p.Haircut < 0 || p.Haircut > 10000:
		return 0, api.ErrArg
	}
	n := big.NewInt(p.Qty)
	n.Mul(n, big.NewInt(p.Price)).Mul(n, big.NewInt(int64(10000-p.Haircut)))
	digits := strings.Repeat("0", scale+5) + n.String()
	value, err := strconv.ParseInt(digits[:len(digits)-scale-4], 10, 64)
	if err != nil {
		return 0, api.ErrOver
	}
	return value, api.OK
}

func limitAgain(l []api.Pool, scale int) (int64, api.Errno) {
	if len(l) > 4096 {
		return 0, api.ErrMany
	}
	sum := new(big.Int)
	for _, p := range l {
		n, no := valueAgain(p, scale)
		if no != api.OK {
			return 0, no
		}
		sum.Add(sum, big.NewInt(n))
	}
	if !sum.IsInt64() {
		return 0, api.ErrOver
	}
	return sum.Int64(), api.OK
}

// leastAgain is the least quantity that is worth so much, looked for by halves.
func leastAgain(p api.Pool, scale int, value int64) int64 {
	return int64(sort.Search(int(p.Qty), func(qty int) bool {
		part, _ := valueAgain(pool(int64(qty), p.Price, p.Haircut), scale)
		return part >= value
	}))
}

func drawAgain(l []api.Pool, need int64, scale int) ([]int64, api.Errno) {
	if len(l) > 4096 {
		return nil, api.ErrMany
	}
	if need < 0 {
		return nil, api.ErrAmount
	}
	for _, p := range l {
		if _, no := valueAgain(p, scale); no != api.OK {
			return nil, no
		}
	}
	var haircuts []int
	for _, p := range l {
		haircuts = append(haircuts, p.Haircut)
	}
	slices.Sort(haircuts)
	taken := make([]int64, len(l))
	for _, haircut := range slices.Compact(haircuts) {
		for i, p := range l {
			if p.Haircut != haircut {
				continue
			}
			all, _ := valueAgain(p, scale)
			taken[i] = leastAgain(p, scale, min(all, need))
			part, _ := valueAgain(pool(taken[i], p.Price, p.Haircut), scale)
			need = max(0, need-part)
		}
	}
	if need > 0 {
		return nil, api.ErrCover
	}
	return taken, api.OK
}
