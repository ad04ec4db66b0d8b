package margin_test

import (
	"fmt"
	"math"
	"slices"
	"testing"

	"custody/api"
	"custody/margin"
	"custody/proof"
)

const (
	most  = math.MaxInt64
	least = math.MinInt64
	huge  = math.MaxFloat64
	tiny  = math.SmallestNonzeroFloat64
)

var (
	inf    = math.Inf(1)
	nan    = math.NaN()
	minus0 = math.Copysign(0, -1)
)

// notFinite: all that a row must not have.
func notFinite() []float64 { return row(nan, inf, -inf) }

func row(l ...float64) []float64 { return l }

// quotes are of days and prices, by turns.
func quotes(l ...float64) []api.Quote {
	var out []api.Quote
	for i := 0; i < len(l); i += 2 {
		out = append(out, api.Quote{Day: int(l[i]), Price: l[i+1]})
	}
	return out
}

func pool(qty, price int64, haircut int) api.Pool {
	return api.Pool{Qty: qty, Price: price, Haircut: haircut}
}

func pools(l ...api.Pool) []api.Pool { return l }

func amounts(l ...int64) []int64 { return l }

// next and before are the numbers just above and just below.
func next(x float64) float64   { return math.Nextafter(x, inf) }
func before(x float64) float64 { return math.Nextafter(x, -inf) }

func sameBits(x, y float64) bool { return math.Float64bits(x) == math.Float64bits(y) }

func sameRow(a, b []float64) bool { return slices.EqualFunc(a, b, sameBits) }

func sameSpectrum(a, b []complex128) bool {
	return slices.EqualFunc(a, b, func(x, y complex128) bool {
		return sameBits(real(x), real(y)) && sameBits(imag(x), imag(y))
	})
}

// shown is what a failure tells of arguments, however many they are.
func shown(args any) string {
	s := fmt.Sprintf("%+v", args)
	return s[:min(len(s), 400)]
}

// tells checks what a call answered: right tells whether it is what is wanted, and none whether it is nothing, as it must be beside an error.
func tells(t *testing.T, call string, args any, right, none bool, got any, err error, want any, no api.Errno) {
	t.Helper()
	if no != api.OK {
		right, want = none, "nothing"
	}
	if !right || !proof.Tells(err, no) {
		t.Fatalf("%s of %s is %s, %v; not %s, %v", call, shown(args), shown(got), err, shown(want), no)
	}
}

// number checks a number with a point, to the bit.
func number(t *testing.T, call string, args any, got float64, err error, want float64, no api.Errno) {
	t.Helper()
	tells(t, call, args, sameBits(got, want), sameBits(got, 0), got, err, want, no)
}

func returns(t *testing.T, l []api.Quote, want []float64, no api.Errno) {
	t.Helper()
	got, err := margin.Returns(l)
	tells(t, "Returns", l, sameRow(got, want), len(got) == 0, got, err, want, no)
}

func means(t *testing.T, l []float64, want float64, no api.Errno) {
	t.Helper()
	got, err := margin.Mean(l)
	number(t, "Mean", l, got, err, want, no)
}

func deviates(t *testing.T, l []float64, want float64, no api.Errno) {
	t.Helper()
	got, err := margin.Deviation(l)
	number(t, "Deviation", l, got, err, want, no)
}

func smooths(t *testing.T, l []float64, fade, want float64, no api.Errno) {
	t.Helper()
	got, err := margin.Smooth(l, fade)
	number(t, "Smooth", []any{fade, l}, got, err, want, no)
}

func betas(t *testing.T, a, b []float64, want float64, no api.Errno) {
	t.Helper()
	got, err := margin.Beta(a, b)
	number(t, "Beta", []any{a, b}, got, err, want, no)
}

func cuts(t *testing.T, volatility float64, days, floor, want int, no api.Errno) {
	t.Helper()
	got, err := margin.Haircut(volatility, days, floor)
	tells(t, "Haircut", []any{volatility, days, floor}, got == want, got == 0, got, err, want, no)
}

func spreads(t *testing.T, l []float64, want []complex128, no api.Errno) {
	t.Helper()
	got, err := margin.Spectrum(l)
	tells(t, "Spectrum", l, sameSpectrum(got, want), len(got) == 0, got, err, want, no)
}

func goesRound(t *testing.T, l []float64, want int, no api.Errno) {
	t.Helper()
	got, err := margin.Period(l)
	tells(t, "Period", l, got == want, got == 0, got, err, want, no)
}

func worth(t *testing.T, p api.Pool, scale int, want int64, no api.Errno) {
	t.Helper()
	got, err := margin.Value(p, scale)
	tells(t, "Value", []any{p, scale}, got == want, got == 0, got, err, want, no)
}

func limits(t *testing.T, l []api.Pool, scale int, want int64, no api.Errno) {
	t.Helper()
	got, err := margin.Limit(l, scale)
	tells(t, "Limit", []any{scale, l}, got == want, got == 0, got, err, want, no)
}

func draws(t *testing.T, l []api.Pool, need int64, scale int, want []int64, no api.Errno) {
	t.Helper()
	got, err := margin.Draw(l, need, scale)
	tells(t, "Draw", []any{need, scale, l}, slices.Equal(got, want), len(got) == 0, got, err, want, no)
}

// refused tells that each call on one row refuses it, whatever else it is given.
func refused(t *testing.T, l []float64, no api.Errno) {
	t.Helper()
	means(t, l, 0, no)
	deviates(t, l, 0, no)
	for _, fade := range row(0, 0.5, 1, -1, 2, nan, inf) {
		smooths(t, l, fade, 0, no)
	}
	betas(t, l, l, 0, no)
}

// refusedOf1024 is the same of the calls that take no more than 1024 numbers.
func refusedOf1024(t *testing.T, l []float64, no api.Errno) {
	t.Helper()
	spreads(t, l, nil, no)
	goesRound(t, l, 0, no)
}
