package margin_test

import (
	"math"
	"slices"
	"testing"

	"custody/api"
)

// P25.1

func TestReturns(t *testing.T) {
	one, ten := 1.0, 10.0 // no constants: those are reckoned exactly
	for _, x := range []struct {
		l    []api.Quote
		want []float64
	}{
		{quotes(1, 4, 2, 1), row(-0.75)},
		{quotes(1, 1, 2, 4), row(3)},
		{quotes(1, 3, 2, 3, 3, 3), row(0, 0)},
		{quotes(1, 3, 2, 1, 3, 3), row(one/3-1, 2)},
		{quotes(-5, 100, -4, 150, 0, 75, 1000000, 300), row(0.5, -0.5, 3)},
		{[]api.Quote{{Day: math.MinInt, Price: 2}, {Day: math.MaxInt, Price: 1}}, row(-0.5)},
		{[]api.Quote{{Day: math.MaxInt - 1, Price: 2}, {Day: math.MaxInt, Price: 1}}, row(-0.5)},
		// the quotient is 0, or next to it, or the greatest
		{quotes(1, huge, 2, tiny), row(-1)},
		{quotes(1, 1, 2, tiny), row(-1)},
		{quotes(1, 1, 2, huge), row(huge)},
		{quotes(1, 0.5, 2, huge/2), row(huge)},
		{quotes(1, huge, 2, huge, 3, tiny, 4, tiny), row(0, -1, 0)},
		// the quotient is rounded ahead of the difference
		{quotes(1, 3, 2, 10), row(ten/3 - 1)},
		{quotes(1, 10, 2, 3), row(3/ten - 1)},
	} {
		returns(t, x.l, x.want, api.OK)
	}
}

// TestReturnsOfOneQuote: one has none, and two have one.
func TestReturnsOfOneQuote(t *testing.T) {
	for _, price := range row(1, 0, -1, nan, inf) {
		returns(t, quotes(1, price), nil, api.ErrShort)
	}
	returns(t, nil, nil, api.ErrShort)
	returns(t, quotes(1, 1, 2, 1), row(0), api.OK)
}

// TestReturnsOfMany: as many as there may be, and one more, whatever is wrong with them.
func TestReturnsOfMany(t *testing.T) {
	l, want := make([]api.Quote, 4097), make([]float64, 4095)
	for i := range l {
		l[i] = api.Quote{Day: i, Price: float64(int(1) << (i % 2))}
	}
	for i := range want {
		want[i] = row(1, -0.5)[i%2]
	}
	returns(t, l[:4096], want, api.OK)
	returns(t, l[1:], append(want[1:], -0.5), api.OK)
	returns(t, l, nil, api.ErrMany)
	l[0].Price = nan
	returns(t, l, nil, api.ErrMany)
	returns(t, make([]api.Quote, 4097), nil, api.ErrMany)
	returns(t, make([]api.Quote, 4096), nil, api.ErrArg)
}

// noPrices: all that a quote's price must not be.
func noPrices() []float64 { return row(0, minus0, -tiny, -1, -huge, nan, inf, -inf) }

// TestWrongQuotes: each thing that is wrong, at each quote.
func TestWrongQuotes(t *testing.T) {
	for at := range 4 {
		for _, price := range noPrices() {
			l := quotes(1, 10, 2, 11, 3, 12, 4, 13)
			l[at].Price = price
			returns(t, l, nil, api.ErrArg)
		}
		for _, day := range []int{at, at - 1, -7, math.MinInt} {
			l := quotes(1, 10, 2, 11, 3, 12, 4, 13)
			if l[at].Day = day; at > 0 {
				returns(t, l, nil, api.ErrDate)
			}
		}
		if at > 0 {
			l := quotes(1, 10, 2, 11, 3, 12, 4, 13)
			l[at-1].Price, l[at].Price = 1e-10, huge
			returns(t, l, nil, api.ErrOver)
		}
	}
}

// TestWrongInOneQuote: of a quote its price is asked first, then its day, then the quotient.
func TestWrongInOneQuote(t *testing.T) {
	for _, price := range noPrices() {
		returns(t, quotes(1, tiny, 1, price), nil, api.ErrArg)
		returns(t, quotes(1, 1, 0, price), nil, api.ErrArg)
	}
	returns(t, quotes(1, tiny, 1, huge), nil, api.ErrDate)
	returns(t, quotes(1, tiny, 2, huge), nil, api.ErrOver)
	returns(t, quotes(1, 0.5, 2, next(huge/2)), nil, api.ErrOver)
}

// TestWrongInTwoQuotes: each error of a quote is told ahead of those of the next one.
func TestWrongInTwoQuotes(t *testing.T) {
	firsts := []struct {
		l  []api.Quote
		no api.Errno
	}{{quotes(1, 2, 5, -1), api.ErrArg}, {quotes(1, 2, 1, 1), api.ErrDate}, {quotes(1, 1e-10, 5, huge), api.ErrOver}}
	for _, first := range firsts {
		for _, later := range []api.Quote{{Day: 6, Price: nan}, {Day: 5, Price: 1}, {Day: 6, Price: huge}, {Day: 6, Price: 1}} {
			returns(t, append(slices.Clone(first.l), later), nil, first.no)
			returns(t, append(quotes(-9, 1), append(slices.Clone(first.l), later)...), nil, first.no)
		}
	}
	returns(t, quotes(1, 0, 1, nan), nil, api.ErrArg)
	returns(t, quotes(1, 0, 0, 1), nil, api.ErrArg)
}

// P25.2

func TestMean(t *testing.T) {
	for _, x := range []struct {
		l    []float64
		want float64
	}{
		{row(7), 7},
		{row(-7), -7},
		{row(1, 2), 1.5},
		{row(1, 2, 4), 7.0 / 3},
		{row(0), 0},
		{row(minus0), 0}, // 0 and -0 are 0
		{row(minus0, minus0), 0},
		{row(huge), huge},
		{row(tiny), tiny},
		{row(tiny, 0, 0), 0},
		{row(-tiny, 0, 0), minus0},
		{row(huge, -huge), 0},
		{row(huge, -huge, huge), huge / 3},
		// the order counts
		{row(1<<53, 1, 1, 0), 1 << 51},
		{row(1, 1, 1<<53, 0), 1<<51 + 0.5},
		{row(1, -1<<54, 1<<54), 0},
		{row(-1<<54, 1<<54, 1), 1.0 / 3},
	} {
		means(t, x.l, x.want, api.OK)
	}
}

// TestMeanIsOver: a sum that is infinite on the way stays so, or comes to no number.
func TestMeanIsOver(t *testing.T) {
	for _, l := range [][]float64{row(huge, huge), row(-huge, -huge), row(huge, huge, -huge, -huge), row(huge, huge, -huge), row(1, huge, next(huge/2)), row(huge, before(inf)/1e15)} {
		means(t, l, 0, api.ErrOver)
		deviates(t, l, 0, api.ErrOver)
		betas(t, l, l, 0, api.ErrOver)
	}
	means(t, row(huge, 1e290), huge/2, api.OK)
}

// P25.3

func TestDeviation(t *testing.T) {
	for _, x := range []struct {
		l    []float64
		want float64
	}{
		{row(7), 0},
		{row(minus0), 0},
		{row(huge), 0},
		{row(5, 5, 5), 0},
		{row(1, 3), 1},
		{row(3, 1), 1},
		{row(-1, -3), 1},
		{row(2, 4, 4, 4, 5, 5, 7, 9), 2},
		{row(1, 2, 3), math.Sqrt(2.0 / 3)},
		{row(0, 0, 0, 4), math.Sqrt(3)}, // over how many there are, not one less
		{row(0x1p500, -0x1p500), 0x1p500},
		{row(1e-170, -1e-170), 0}, // the squares are too small
	} {
		deviates(t, x.l, x.want, api.OK)
	}
}

// TestDeviationIsOver: the mean is finite, and the squares are not.
func TestDeviationIsOver(t *testing.T) {
	for _, l := range [][]float64{row(1e155, -1e155), row(huge, -huge), row(huge, 0), row(-huge, huge, huge), row(1e154, -1e154, 1e154, -1e154)} {
		deviates(t, l, 0, api.ErrOver)
		if x, no := meanAgain(l); no != api.OK {
			t.Errorf("the mean of %v is %v, %v", l, x, no)
		}
	}
}

// P25.4

func TestSmooth(t *testing.T) {
	for _, x := range []struct {
		l          []float64
		fade, want float64
	}{
		{row(3), 0.5, 3},
		{row(-3), 0, 3},
		{row(minus0), 1, 0},
		{row(minus0), minus0, 0},
		{row(3, 4), 0, 4},
		{row(3, 4), minus0, 4},
		{row(3, 4), 1, 3},
		{row(3, -4, 100), 1, 3},
		{row(3, 4, -5), 0, 5},
		{row(3, 4), 0.25, math.Sqrt(0.25*9 + 0.75*16)},
		{row(4, 3), 0.25, math.Sqrt(0.25*16 + 0.75*9)},
		{row(2, 4, 6), 0.5, math.Sqrt((0.5*4+0.5*16)*0.5 + 0.5*36)},
		{row(3, 4), tiny, 4},
		{row(3, 4), before(1), 3},
		{row(0x1p511, 0x1p511), 0.5, 0x1p511},
		{row(1e-170, 1e-170), 0.5, 0},
	} {
		smooths(t, x.l, x.fade, x.want, api.OK)
	}
}

// TestFade: from 0 to 1, and nothing beyond either.
func TestFade(t *testing.T) {
	for _, fade := range row(-tiny, next(1), -1, 2, inf, -inf, nan, huge, -huge) {
		smooths(t, row(3), fade, 0, api.ErrArg)
		smooths(t, row(3, 4), fade, 0, api.ErrArg)
		smooths(t, row(huge, 4), fade, 0, api.ErrArg) // ahead of ErrOver
	}
	for _, fade := range row(0, minus0, tiny, 0.5, before(1), 1) {
		smooths(t, row(3), fade, 3, api.OK)
		smooths(t, row(huge), fade, 0, api.ErrOver)
	}
}

// TestSmoothIsOver: one of the squares is infinite, first, last or between, also where it would fade to nothing.
func TestSmoothIsOver(t *testing.T) {
	for _, l := range [][]float64{row(1e155), row(1e155, 0), row(0, 1e155), row(0, -1e155, 0, 0), row(0, huge, 1), row(-huge, 1, 1, 1, 1)} {
		for _, fade := range row(0, minus0, tiny, 0.5, before(1), 1) {
			smooths(t, l, fade, 0, api.ErrOver)
		}
	}
}

// P25.6

func TestBeta(t *testing.T) {
	for _, x := range []struct {
		a, b []float64
		want float64
	}{
		{row(2, 4, 6), row(1, 2, 3), 2},
		{row(1, 2, 3), row(2, 4, 6), 0.5},
		{row(6, 4, 2), row(1, 2, 3), -2},
		{row(1, 2, 3), row(1, 2, 3), 1},
		{row(7, 7), row(1, 2), 0},
		{row(1, 2, 1, 2), row(1, 1, 2, 2), 0},
		{row(101, 103), row(-7, -6), 2},
		{row(0, 1), row(0, 3), 1.0 / 3},
		{row(0, 0, 3), row(0, 1, 2), 1.5},
		{row(1e160, -1e160), row(1e140, -1e140), 1e20},
		{row(1e-160, -1e-160), row(1, -1), 1e-160},
	} {
		betas(t, x.a, x.b, x.want, api.OK)
	}
}

// TestWrongBeta goes through its errors, each ahead of the next.
func TestWrongBeta(t *testing.T) {
	long := make([]float64, 4097)
	for _, x := range []struct {
		a, b []float64
		no   api.Errno
	}{
		// as many of both, ahead of what is wrong with a row
		{row(1, 2), row(1), api.ErrArg},
		{row(1), row(1, 2), api.ErrArg},
		{nil, row(1), api.ErrArg},
		{row(1), nil, api.ErrArg},
		{long, long[1:], api.ErrArg},
		{long, nil, api.ErrArg},
		{long, row(nan), api.ErrArg},
		{row(huge, huge), row(1), api.ErrArg},
		// the mean of a, then that of b
		{nil, nil, api.ErrShort},
		{long, long, api.ErrMany},
		{row(nan, 1), row(huge, huge), api.ErrArg},
		{row(huge, huge), row(nan, 1), api.ErrOver},
		{row(huge, huge), row(5, 5), api.ErrOver},
		{row(1, 2), row(1, nan), api.ErrArg},
		{row(1, 2), row(inf, 1), api.ErrArg},
		{row(1, 2), row(-huge, -huge), api.ErrOver},
		// c or v
		{row(1, 2), row(1e200, -1e200), api.ErrOver},
		{row(1e200, -1e200), row(1e150, -1e150), api.ErrOver},
		{row(-1e200, 1e200), row(1e150, -1e150), api.ErrOver},
		{row(5, 5), row(1e200, -1e200), api.ErrOver},
		{row(1e200, -1e200), row(1e200, -1e200), api.ErrOver},
		{row(huge, -huge, -huge), row(5, 5, 5), api.ErrOver}, // c is no number, ahead of v that is 0
		// v is 0
		{row(1, 2), row(5, 5), api.ErrLost},
		{row(5, 5), row(5, 5), api.ErrLost},
		{row(5), row(7), api.ErrLost},
		{row(huge, -huge), row(5, 5), api.ErrLost},
		{row(1, 2), row(1e-170, -1e-170), api.ErrLost}, // the squares are too small
		// the answer
		{row(1e160, -1e160), row(1e-160, -1e-160), api.ErrOver},
		{row(-1e160, 1e160), row(1e-160, -1e-160), api.ErrOver},
	} {
		betas(t, x.a, x.b, 0, x.no)
	}
}

// The row's errors: P25.2 to P25.4, P25.6 to P25.8

// TestRowsThatAreTooLong: as many as there may be, and one more, whatever they are.
func TestRowsThatAreTooLong(t *testing.T) {
	for _, x := range append(row(1, huge, -huge), notFinite()...) {
		l := slices.Repeat(row(x), 5000)
		for _, n := range []int{4097, 4098, 5000} {
			refused(t, l[:n], api.ErrMany)
		}
		for _, n := range []int{1025, 1026, 2048, 4096, 4097, 5000} {
			refusedOf1024(t, l[:n], api.ErrMany)
		}
	}
	l := slices.Repeat(row(3), 4096)
	means(t, l, 3, api.OK)
	deviates(t, l, 0, api.OK)
	smooths(t, l, 0.5, 3, api.OK)
	l[0] = 4
	betas(t, l, l, 1, api.OK)
	s := make([]complex128, 1024)
	s[0] = 3 * 1024
	spreads(t, slices.Repeat(row(3), 1024), s, api.OK)
	goesRound(t, slices.Repeat(row(1, -1), 512), 512, api.OK)
}

func TestNoRows(t *testing.T) {
	for _, l := range [][]float64{nil, {}, make([]float64, 0, 3)} {
		refused(t, l, api.ErrShort)
		refusedOf1024(t, l, api.ErrShort)
	}
}

// TestNumbersThatAreNotFinite: in rows of any length, at any place, and ahead of all that is wrong behind.
func TestNumbersThatAreNotFinite(t *testing.T) {
	for _, x := range notFinite() {
		for _, n := range []int{1, 2, 3, 4, 5, 8, 1000, 1023, 1024, 4096} {
			for _, at := range []int{0, n / 2, n - 1} {
				for _, others := range row(1, 0, huge) {
					l := slices.Repeat(row(others), n)
					l[at] = x
					refused(t, l, api.ErrArg)
					if n <= 1024 {
						refusedOf1024(t, l, api.ErrArg)
					}
				}
			}
		}
	}
	for _, x := range row(huge, -huge, tiny, -tiny, 0, minus0) { // these are finite
		means(t, row(x), x+0, api.OK)
		deviates(t, row(x), 0, api.OK)
		goesRound(t, row(x), 0, api.ErrLost)
	}
}
