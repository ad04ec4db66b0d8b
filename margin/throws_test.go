package margin_test

import (
	"math"
	"testing"

	"custody/api"
	"custody/proof"
)

// throwPart is a number from -1 to 1 with all its 53 bits.
func throwPart(d *proof.Dice) float64 {
	return float64(int64(d.Next()>>11))/(1<<52) - 1
}

// throwNumber is any finite number: a whole one, one of a market's size, one of any size, or one near the greatest or the least.
func throwNumber(d *proof.Dice) float64 {
	x := throwPart(d)
	return proof.Of(d, 0, minus0, float64(d.Below(9)-4), x, x/10, x*100, math.Ldexp(x, d.Below(2000)-1000), x*huge, huge, -huge, x*1e-307, x*1e-320, tiny, -tiny)
}

// throwRow is a row of so many numbers of one size, or of any.
func throwRow(d *proof.Dice, n int) []float64 {
	size := proof.Of(d, 1, 1, 0.03, 1e150, 1e154, 1e-160, 1e-170, huge, huge/2, 1e-310)
	kind := d.Below(6)
	var l []float64
	for range n {
		x := throwPart(d) * size
		switch kind {
		case 0:
			x = throwNumber(d)
		case 1:
			x = float64(d.Below(7) - 3)
		case 2:
			x = proof.Of(d, x, x, minus0, 0)
		case 3:
			x = size
		}
		l = append(l, x)
	}
	if d.Below(30) == 0 && n > 0 {
		l[d.Below(n)] = proof.Of(d, notFinite()...)
	}
	return l
}

func throwFade(d *proof.Dice) float64 {
	x := math.Abs(throwPart(d))
	return proof.Of(d, x, x, x, 0.94, 0.5, 0, 1, minus0, tiny, before(1), next(1), -tiny, nan, inf, x*1e-300)
}

func agreesOnRow(t *testing.T, l []float64) {
	t.Helper()
	x, no := meanAgain(l)
	means(t, l, x, no)
	x, no = deviationAgain(l)
	deviates(t, l, x, no)
}

func agreesOnSmooth(t *testing.T, l []float64, fade float64) {
	t.Helper()
	x, no := smoothAgain(l, fade)
	smooths(t, l, fade, x, no)
}

func agreesOnBeta(t *testing.T, a, b []float64) {
	t.Helper()
	x, no := betaAgain(a, b)
	betas(t, a, b, x, no)
}

func agreesOnSpectrum(t *testing.T, l []float64) {
	t.Helper()
	s, no := spectrumAgain(l)
	spreads(t, l, s, no)
	k, no := periodAgain(l)
	goesRound(t, l, k, no)
}

func agreesOnReturns(t *testing.T, l []api.Quote) {
	t.Helper()
	out, no := returnsAgain(l)
	returns(t, l, out, no)
}

func agreesOnHaircut(t *testing.T, volatility float64, days, floor int) {
	t.Helper()
	n, no := haircutAgain(volatility, days, floor)
	cuts(t, volatility, days, floor, n, no)
}

func agreesOnPools(t *testing.T, l []api.Pool, need int64, scale int) {
	t.Helper()
	for _, p := range l {
		n, no := valueAgain(p, scale)
		worth(t, p, scale, n, no)
	}
	sum, no := limitAgain(l, scale)
	limits(t, l, scale, sum, no)
	taken, no := drawAgain(l, need, scale)
	draws(t, l, need, scale, taken, no)
}

// counts are how often each error was told, so that a test knows what it has seen.
type counts map[api.Errno]int

func (c counts) haveSeen(t *testing.T, many int, errors ...api.Errno) {
	t.Helper()
	for _, no := range errors {
		if c[no] < many {
			t.Errorf("%v was told %d times", no, c[no])
		}
	}
}

// TestThrownRows is P25.2 to P25.4, and P25.6: to the bit what the chapter's order comes to.
func TestThrownRows(t *testing.T) {
	d := proof.Dice(2501)
	deviations, smooth, beta := counts{}, counts{}, counts{}
	for range 12000 {
		n := proof.Of(&d, 0, 1, 2, 2, 3, 4, 5+d.Below(20))
		l, other, fade := throwRow(&d, n), throwRow(&d, n+proof.Of(&d, 0, 0, 0, 0, 0, 0, 0, 1)), throwFade(&d)
		agreesOnRow(t, l)
		agreesOnSmooth(t, l, fade)
		agreesOnBeta(t, l, other)
		_, no := deviationAgain(l)
		deviations[no]++
		_, no = smoothAgain(l, fade)
		smooth[no]++
		_, no = betaAgain(l, other)
		beta[no]++
	}
	deviations.haveSeen(t, 150, api.OK, api.ErrShort, api.ErrArg, api.ErrOver)
	smooth.haveSeen(t, 150, api.OK, api.ErrShort, api.ErrArg, api.ErrOver)
	beta.haveSeen(t, 150, api.OK, api.ErrShort, api.ErrArg, api.ErrOver, api.ErrLost)
}

// TestThrownLongRows is the same of rows as long as they may be, and one longer.
func TestThrownLongRows(t *testing.T) {
	d := proof.Dice(2502)
	for range 2 {
		for _, n := range []int{1000, 4095, 4096, 4097} {
			var a, b []float64
			for range n {
				a, b = append(a, throwPart(&d)/20), append(b, throwPart(&d)/30)
			}
			agreesOnRow(t, a)
			agreesOnSmooth(t, a, 0.94)
			agreesOnBeta(t, a, b)
		}
	}
}

// TestThrownSpectra is P25.7 and P25.8: to the bit what the halves come to.
func TestThrownSpectra(t *testing.T) {
	d := proof.Dice(2503)
	spectra, periods := counts{}, counts{}
	for range 2000 {
		l := throwRow(&d, proof.Of(&d, 0, 1, 2, 2, 4, 4, 8, 8, 16, 32, d.Below(20)))
		agreesOnSpectrum(t, l)
		_, no := spectrumAgain(l)
		spectra[no]++
		_, no = periodAgain(l)
		periods[no]++
	}
	spectra.haveSeen(t, 100, api.OK, api.ErrShort, api.ErrArg, api.ErrOver)
	periods.haveSeen(t, 100, api.OK, api.ErrShort, api.ErrArg, api.ErrOver, api.ErrLost)
	for _, n := range []int{64, 128, 256, 512, 1024} {
		var l []float64
		for range n {
			l = append(l, throwPart(&d))
		}
		agreesOnSpectrum(t, l)
	}
}

// TestPowersStepByStep is P25.8 where two powers are nearly the same, so that each rounding of a square counts.
func TestPowersStepByStep(t *testing.T) {
	d := proof.Dice(2507)
	counted := 0
	for range 3000 {
		// The spectrum has p and -q at the place 1, and z at the place 2: all steps up to there are exact.
		p, q := float64(d.Next()>>14), float64(d.Next()>>14)
		z := math.Round(math.Hypot(p, q))
		x := (z - p + q) / 2
		agreesOnSpectrum(t, row(p+x, q, x, 0))
		one, two := float64(p*p)+float64(q*q), z*z
		if (one >= two) != (math.FMA(p, p, float64(q*q)) >= two) {
			counted++
		}
	}
	if counted < 20 {
		t.Errorf("the rounding counted %d times", counted)
	}
}

// TestThrownReturns is P25.1.
func TestThrownReturns(t *testing.T) {
	d := proof.Dice(2504)
	seen := counts{}
	for range 20000 {
		var l []api.Quote
		day := d.Number() % 1000000
		for range proof.Of(&d, 0, 1, 2, 2, 3, 3, 4, 10) {
			day += 1 + d.Below(3)
			l = append(l, api.Quote{Day: day, Price: 100 + throwPart(&d)})
		}
		for range proof.Of(&d, 0, 0, 0, 1, 1, 2) {
			if len(l) > 0 {
				x := &l[d.Below(len(l))]
				switch d.Below(4) {
				case 0:
					x.Day -= d.Below(4)
				case 1:
					x.Price = math.Abs(throwNumber(&d))
				case 2:
					x.Price = proof.Of(&d, huge, tiny, 1e300, 1e-300)
				case 3:
					x.Price = proof.Of(&d, 0, minus0, -1, nan, inf, -inf, throwNumber(&d))
				}
			}
		}
		agreesOnReturns(t, l)
		_, no := returnsAgain(l)
		seen[no]++
	}
	seen.haveSeen(t, 300, api.OK, api.ErrShort, api.ErrArg, api.ErrDate, api.ErrOver)
}

// TestThrownHaircuts is P25.5: also where x is just about a whole number.
func TestThrownHaircuts(t *testing.T) {
	d := proof.Dice(2505)
	var ok, floors, all int
	for range 30000 {
		days := proof.Of(&d, 0, 1, 4, 9, d.Below(400), 1+d.Below(30), d.Number())
		floor := proof.Of(&d, 0, 0, 1, d.Below(10001), 9999, 10000, d.Number())
		volatility := proof.Of(&d, math.Abs(throwPart(&d))/10, math.Abs(throwPart(&d))/10, math.Abs(throwNumber(&d)), throwNumber(&d), nan, inf)
		if at := float64(d.Below(10002)) / 10000; days > 0 && d.Below(2) == 0 {
			at /= math.Sqrt(float64(days))
			volatility = proof.Of(&d, at, next(at), before(at), next(next(at)), before(before(at)))
		}
		agreesOnHaircut(t, volatility, days, floor)
		switch n, no := haircutAgain(volatility, days, floor); {
		case no != api.OK:
		case n == 10000:
			all++
		case n == floor:
			floors++
		default:
			ok++
		}
	}
	if ok < 3000 || floors < 3000 || all < 3000 {
		t.Errorf("%d haircuts, %d at the floor, %d of all", ok, floors, all)
	}
}

// throwPool is a pool of little, or of any quantity at any price; seldom something is wrong with it.
func throwPool(d *proof.Dice) api.Pool {
	haircut := proof.Of(d, 0, 0, 500, 1000, 9999, 10000, d.Below(10001))
	p := proof.Of(d, pool(int64(d.Below(20)), int64(d.Below(300)), haircut), pool(int64(d.Below(1000)), int64(d.Next()>>(14+d.Below(48))), haircut), pool(int64(d.Next()>>(14+d.Below(48))), int64(d.Below(50)), haircut), pool(d.Qty(), d.Qty(), haircut))
	if d.Below(60) == 0 {
		n := d.Number()
		switch d.Below(3) {
		case 0:
			p.Qty = int64(n)
		case 1:
			p.Price = int64(n)
		case 2:
			p.Haircut = n
		}
	}
	p.Asset = d.Number()
	return p
}

// throwNeed is what these pools are worth, one more or less, some of it, or any number.
func throwNeed(d *proof.Dice, l []api.Pool, scale int) int64 {
	sum, no := limitAgain(l, scale)
	if no != api.OK || sum == 0 {
		return proof.Of(d, 0, 1, most, int64(d.Number()))
	}
	part := int64(d.Next()%uint64(sum)) + 1
	return proof.Of(d, part, part, part, sum, sum-1, min(sum, most-1)+1, 0, int64(d.Number()))
}

// TestThrownPools is P25.9 to P25.11.
func TestThrownPools(t *testing.T) {
	d := proof.Dice(2506)
	values, sums, drawn := counts{}, counts{}, counts{}
	for range 20000 {
		var l []api.Pool
		for range proof.Of(&d, 0, 1, 1, 2, 3, 3, 6) {
			l = append(l, throwPool(&d))
		}
		scale := proof.Of(&d, 0, 0, 1, 2, 18, d.Below(19), d.Below(22)-1)
		need := throwNeed(&d, l, scale)
		agreesOnPools(t, l, need, scale)
		for _, p := range l {
			_, no := valueAgain(p, scale)
			values[no]++
		}
		_, no := limitAgain(l, scale)
		sums[no]++
		_, no = drawAgain(l, need, scale)
		drawn[no]++
	}
	values.haveSeen(t, 100, api.OK, api.ErrArg, api.ErrAmount, api.ErrOver)
	sums.haveSeen(t, 100, api.OK, api.ErrArg, api.ErrAmount, api.ErrOver)
	drawn.haveSeen(t, 100, api.OK, api.ErrArg, api.ErrAmount, api.ErrOver, api.ErrCover)
}

// TestThrownManyPools is P25.11 of many pools, of which many have the same haircut.
func TestThrownManyPools(t *testing.T) {
	d := proof.Dice(2508)
	for range 300 {
		var l []api.Pool
		for range 10 + d.Below(100) {
			l = append(l, pool(int64(d.Below(20)), int64(d.Below(300)), proof.Of(&d, 0, 500, 2500)))
		}
		agreesOnPools(t, l, throwNeed(&d, l, 1), 1)
	}
}
