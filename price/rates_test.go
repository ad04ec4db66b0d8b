package price_test

import (
	"math"
	"math/big"
	"slices"
	"testing"

	"custody/api"
	"custody/price"
	"custody/proof"
)

var (
	inf    = math.Inf(1)
	nan    = math.NaN()
	minus0 = math.Copysign(0, -1)
	tiny   = math.SmallestNonzeroFloat64
)

// floats checks a number with a point, bit by bit, and an error; beside an error the number must be 0.
func floats(t *testing.T, call string, args any, got float64, err error, want float64, no api.Errno) {
	t.Helper()
	if no != api.OK {
		want = 0
	}
	if math.Float64bits(got) != math.Float64bits(want) || !proof.Tells(err, no) {
		t.Errorf("%s %v is %v, %v; want %v, %v", call, args, got, err, want, no)
	}
}

// P4.6

func TestYieldExamples(t *testing.T) {
	for _, x := range []struct {
		s    api.Security
		rate float64
		day  int
		want float64
		no   api.Errno
	}{
		{bill(), 0.04, 738886, 100000 / 1.01, api.OK},
		{bill(), 0, 738900, 100000, api.OK},
		{bill(), minus0, 738900, 100000, api.OK},
		{bill(), 0.04, 738976, 100000, api.OK},
		{bill(), -4, 738886, 0, api.ErrArg},
		{bill(), nan, 738886, 0, api.ErrArg},
		{bond(), 0, 738600, 0, api.ErrKind},
		// a quarter of a year: h is 5 / 4, 3 / 4, 1 / 2
		{bill(), 1, 738886, 80000, api.OK},
		{bill(), -2, 738886, 200000, api.OK},
		{bill(), -3, 738886, 400000, api.OK},
		{bill(), 4, 738886, 50000, api.OK},
		// just above 0, and just below
		{bill(), math.Nextafter(-4, 0), 738886, 100000 * (1 << 53), api.OK},
		{bill(), math.Nextafter(-4, -5), 738886, 0, api.ErrArg},
		{bill(), -5, 738886, 0, api.ErrArg},
		{bill(), -math.MaxFloat64, 738886, 0, api.ErrArg},
		{bill(), math.MaxFloat64, 738886, 100000 / (math.MaxFloat64 / 4), api.OK},
		{bill(), tiny, 738886, 100000, api.OK},
		{bill(), -tiny, 738886, 100000, api.OK},
		// a face that no number with a point is: the nearest
		{with(bill(), func(s *api.Security) { s.Face = most }), 0, 738886, 1 << 63, api.OK},
		{with(bill(), func(s *api.Security) { s.Face = 1<<53 + 1 }), 0, 738886, 1 << 53, api.OK},
		{with(bill(), func(s *api.Security) { s.Face = 1<<53 + 3 }), 0.5, 738976, 1<<53 + 4, api.OK},
		{with(bill(), func(s *api.Security) { s.Face = 1 }), 4, 738886, 0.5, api.OK},
		// parts of a year above 1, and a product above the greatest number: h is infinite, or below 0
		{with(bill(), func(s *api.Security) { s.End = s.Start + 720 }), 0.5, 738886, 50000, api.OK},
		{with(bill(), func(s *api.Security) { s.End = s.Start + 720 }), math.MaxFloat64, 738886, 0, api.OK},
		{with(bill(), func(s *api.Security) { s.End = s.Start + 720 }), -math.MaxFloat64, 738886, 0, api.ErrArg},
		{with(bill(), func(s *api.Security) { s.Start, s.End = 1, lastDay }), math.MaxFloat64, 1, 0, api.OK},
	} {
		got, err := price.Yield(x.s, x.rate, x.day)
		floats(t, "Yield", x, got, err, x.want, x.no)
	}
}

func TestYieldByBasis(t *testing.T) {
	// From 31 January to 31 March 2024: 60 days each; from 15 January: 76 days, 76, 76, 75.
	s := with(bill(), func(s *api.Security) { s.Start, s.End = day(2024, 1, 1), day(2024, 3, 31) })
	for basis, want := range [4]float64{60.0 / 360, 60.0 / 365, 60.0 / 360, 60.0 / 360} {
		s.Basis = basis
		h := 1 + want
		got, err := price.Yield(s, 1, day(2024, 1, 31))
		floats(t, "Yield", basis, got, err, 100000/h, api.OK)
	}
	for basis, want := range [4]float64{76.0 / 360, 76.0 / 365, 76.0 / 360, 75.0 / 360} {
		s.Basis = basis
		h := 1 + want
		got, err := price.Yield(s, 1, day(2024, 1, 15))
		floats(t, "Yield", basis, got, err, 100000/h, api.OK)
	}
}

func TestYieldRefuses(t *testing.T) {
	rates := []float64{nan, inf, -inf}
	for _, s := range []api.Security{equity(), bond(), cash()} {
		for _, n := range []int{0, 738600, s.Start, s.End, -1} {
			for _, rate := range append(rates, 0, 0.04, -4) {
				got, err := price.Yield(s, rate, n)
				floats(t, "Yield", []any{s.Kind, rate, n}, got, err, 0, api.ErrKind)
			}
		}
	}
	b := bill()
	for _, n := range append([]int{b.Start - 1, b.End + 1, 1, lastDay}, noDays...) {
		for _, rate := range append(rates, 0, 0.04, -4, -1e300) {
			got, err := price.Yield(b, rate, n)
			floats(t, "Yield", []any{rate, n}, got, err, 0, api.ErrDate)
		}
	}
	for n := b.Start; n <= b.End; n++ {
		for _, rate := range rates {
			got, err := price.Yield(b, rate, n)
			floats(t, "Yield", []any{rate, n}, got, err, 0, api.ErrArg)
		}
	}
}

// steps is a bill's price by the chapter's steps, each rounded to 53 bits by itself.
func steps(t testing.TB, s api.Security, rate float64, n int) (float64, bool) {
	step := func() *big.Float { return new(big.Float).SetPrec(53) }
	above, below := year(t, n, s.End, s.Basis)
	f := step().Quo(step().SetInt64(above), step().SetInt64(below))
	g := step().Mul(step().SetFloat64(rate), f)
	h := step().Add(step().SetInt64(1), g)
	if h.Sign() <= 0 {
		return 0, false
	}
	answer, _ := step().Quo(step().SetInt64(s.Face), h).Float64()
	return answer, true
}

// someRate is a rate of any size, of either sign, mostly near to those of a market.
func someRate(x *noise) float64 {
	m := float64(x.word()>>11)/(1<<53) - 0.3
	switch x.next(4) {
	case 0:
		return m
	case 1:
		return m / 10
	case 2:
		return m * 8
	}
	return math.Ldexp(m, x.next(120)-60)
}

func someBill(x *noise) api.Security {
	s := with(bill(), func(s *api.Security) { s.Face, s.Basis = max(1, x.amount()), x.next(4) })
	s.End = 2 + x.next(lastDay-1)
	s.Start = max(1, s.End-1-x.next(1<<x.next(22)))
	return s
}

func TestYieldStepByStep(t *testing.T) {
	x := noise(47)
	seen, fused := [2]int{}, 0
	for range 60000 {
		s := someBill(&x)
		n := s.Start + x.next(s.End-s.Start+1)
		rate := someRate(&x)
		want, ok := steps(t, s, rate, n)
		no := api.OK
		if ok {
			seen[0]++
		} else {
			no = api.ErrArg
			seen[1]++
		}
		got, err := price.Yield(s, rate, n)
		floats(t, "Yield", []any{s, rate, n}, got, err, want, no)
		above, below := year(t, n, s.End, s.Basis)
		if h := math.FMA(rate, float64(above)/float64(below), 1); ok && float64(s.Face)/h != want {
			fused++
		}
	}
	if seen[0] < 10000 || seen[1] < 1000 || fused < 100 {
		t.Errorf("answers and refusals: %v; with a product that is not rounded by itself %d would differ", seen, fused)
	}
}

func TestYieldWhichErrorIsTold(t *testing.T) {
	x := noise(48)
	seen := map[api.Errno]int{}
	for range 60000 {
		s := anyhow(&x)
		rate := one(&x, []float64{0, 0.04, -4, -5, nan, inf, -inf})
		n := one(&x, []int{s.Start, s.Start, s.End, s.Start + 1, s.Start - 1, s.End + 1, 0, -1, lastDay + 1})
		no, want := wrong(s), 0.0
		switch {
		case no != api.OK:
		case s.Kind != api.Bill:
			no = api.ErrKind
		case n < s.Start || n > s.End:
			no = api.ErrDate
		case rate != rate || rate-rate != 0:
			no = api.ErrArg
		default:
			ok := false
			if want, ok = steps(t, s, rate, n); !ok {
				no = api.ErrArg
			}
		}
		seen[no]++
		got, err := price.Yield(s, rate, n)
		floats(t, "Yield", []any{s, rate, n}, got, err, want, no)
	}
	for _, no := range []api.Errno{api.OK, api.ErrKind, api.ErrForm, api.ErrArg, api.ErrAmount, api.ErrDate} {
		if seen[no] < 200 {
			t.Errorf("%v came %d times only", no, seen[no])
		}
	}
}

// P4.11

func TestYieldDoesNotRise(t *testing.T) {
	x := noise(49)
	for range 2000 {
		s := someBill(&x)
		n := s.Start + x.next(s.End-s.Start+1)
		var rates []float64
		for range 10 {
			r := someRate(&x)
			rates = append(rates, r, math.Nextafter(r, 10), math.Nextafter(r, -10))
		}
		rates = append(rates, 0, minus0, math.MaxFloat64, -math.MaxFloat64, tiny, -tiny)
		slices.Sort(rates)
		last, refused := inf, true
		for _, rate := range rates {
			got, err := price.Yield(s, rate, n)
			if err != nil && !refused {
				t.Errorf("Yield of %v at %v on %d: %v, and at a lesser rate it wasn't", s, rate, n, err)
			}
			if err != nil {
				continue
			}
			refused = false
			if got > last || got < 0 {
				t.Errorf("Yield of %v at %v on %d: %v, behind %v", s, rate, n, got, last)
			}
			last = got
		}
	}
}

func TestYieldIsFace(t *testing.T) {
	x := noise(50)
	for range 5000 {
		s := someBill(&x)
		for _, n := range []int{s.Start, s.End, s.Start + x.next(s.End-s.Start+1)} {
			for _, rate := range []float64{0, minus0} {
				got, err := price.Yield(s, rate, n)
				floats(t, "Yield", []any{s, rate, n}, got, err, float64(s.Face), api.OK)
			}
		}
		for _, rate := range []float64{someRate(&x), 1, -1, -7, math.MaxFloat64, -math.MaxFloat64, tiny, -tiny} {
			got, err := price.Yield(s, rate, s.End)
			floats(t, "Yield", []any{s, rate, "End"}, got, err, float64(s.Face), api.OK)
		}
	}
}

// P4.7

func TestTickExamples(t *testing.T) {
	below63 := math.Nextafter(1<<63, 0) // 2^63 - 1024, the greatest amount that is such a number
	for _, x := range []struct {
		price float64
		scale int
		want  int64
		no    api.Errno
	}{
		{0.5, 0, 0, api.OK},
		{1.5, 0, 2, api.OK},
		{2.675, 2, 268, api.OK}, // the product is rounded to 267.5
		{minus0, 3, 0, api.OK},
		{1e19, 0, 0, api.ErrOver},
		{0, 0, 0, api.OK},
		{0, 18, 0, api.OK},
		{minus0, 0, 0, api.OK},
		{minus0, 18, 0, api.OK},
		{2.5, 0, 2, api.OK},
		{3.5, 0, 4, api.OK},
		{0.25, 1, 2, api.OK},
		{0.75, 1, 8, api.OK},
		{0.35, 1, 4, api.OK}, // rounded to 3.5
		{math.Nextafter(0.5, 0), 0, 0, api.OK},
		{math.Nextafter(0.5, 1), 0, 1, api.OK},
		{math.Nextafter(1.5, 0), 0, 1, api.OK},
		{math.Nextafter(2.5, 3), 0, 3, api.OK},
		{1<<52 - 0.5, 0, 1 << 52, api.OK},
		{1<<52 - 1.5, 0, 1<<52 - 2, api.OK},
		{1<<51 + 0.5, 0, 1 << 51, api.OK},
		{1<<51 + 1.5, 0, 1<<51 + 2, api.OK},
		{1<<51 + 0.75, 0, 1<<51 + 1, api.OK},
		{1<<53 - 1, 0, 1<<53 - 1, api.OK},
		{123.45, 2, 12345, api.OK},
		{98.75, 2, 9875, api.OK},
		{1, 18, 1e18, api.OK},
		{9, 18, 9e18, api.OK},
		{10, 18, 0, api.ErrOver},
		{1e-18, 18, 1, api.OK},
		{4e-19, 18, 0, api.OK},
		{tiny, 0, 0, api.OK},
		{tiny, 18, 0, api.OK},
		{math.MaxFloat64, 0, 0, api.ErrOver},
		{math.MaxFloat64, 1, 0, api.ErrOver}, // the product is infinite
		{math.MaxFloat64, 18, 0, api.ErrOver},
		{below63, 0, 1<<63 - 1024, api.OK},
		{1 << 63, 0, 0, api.ErrOver},
		{math.Nextafter(1<<63, inf), 0, 0, api.ErrOver},
		{1 << 64, 0, 0, api.ErrOver},
		{9.223372036854773, 18, 9223372036854772736, api.OK},
		{9.223372036854775, 18, 9223372036854774784, api.OK},
		{9.223372036854776, 18, 0, api.ErrOver},
		{-1, 0, 0, api.ErrArg},
		{-tiny, 0, 0, api.ErrArg},
		{-tiny, 18, 0, api.ErrArg},
		{-0.5, 0, 0, api.ErrArg},
		{-1e19, 0, 0, api.ErrArg},
		{nan, 0, 0, api.ErrArg},
		{inf, 0, 0, api.ErrArg},
		{-inf, 0, 0, api.ErrArg},
		{1, -1, 0, api.ErrArg},
		{1, 19, 0, api.ErrArg},
		{1e19, 19, 0, api.ErrArg},
		{1e19, -1, 0, api.ErrArg},
		{0, 1 << 32, 0, api.ErrArg},
		{0, math.MaxInt, 0, api.ErrArg},
		{0, math.MinInt, 0, api.ErrArg},
	} {
		got, err := price.Tick(x.price, x.scale)
		holds(t, "Tick", x, got, err, x.want, x.no)
	}
}

// nearest is what Tick should answer of right arguments: one product of 53 bits, and of the whole numbers about it the nearer one.
func nearest(at float64, scale int) (int64, api.Errno) {
	ten := new(big.Float).SetPrec(53).SetInt(new(big.Int).Exp(big.NewInt(10), big.NewInt(int64(scale)), nil))
	x, _ := new(big.Float).SetPrec(53).Mul(new(big.Float).SetFloat64(at), ten).Rat(nil)
	if x == nil {
		return 0, api.OK // of 0
	}
	return told(near(x.Num(), x.Denom(), api.HalfEven))
}

func TestTickOfMany(t *testing.T) {
	x := noise(51)
	seen, halves := map[api.Errno]int{}, 0
	for range 200000 {
		scale := x.next(19)
		var at float64
		switch x.next(4) {
		case 0: // any
			at = math.Ldexp(float64(x.word()>>11), x.next(80)-63)
		case 1: // near to a half
			at = (float64(x.word()>>x.next(64)) + 0.5) / math.Pow10(scale)
			halves++
		case 2: // near to the greatest
			at = math.Ldexp(1+float64(x.next(9)-4)/(1<<51), 63) / math.Pow10(scale)
		case 3: // whole
			at = float64(x.word() >> x.next(64))
		}
		for _, at := range []float64{at, math.Nextafter(at, inf), math.Nextafter(at, 0)} {
			want, no := nearest(at, scale)
			seen[no]++
			got, err := price.Tick(at, scale)
			holds(t, "Tick", []any{at, scale}, got, err, want, no)
		}
	}
	if seen[api.OK] < 100000 || seen[api.ErrOver] < 50000 || halves < 10000 {
		t.Errorf("answers and refusals: %v; halves: %d", seen, halves)
	}
}

func TestTickOfWholeNumbers(t *testing.T) {
	x := noise(52)
	for _, n := range []int64{0, 1, 2, 3, 1<<31 - 1, 1 << 31, 1 << 52, 1<<52 + 1, 1<<53 - 2, 1<<53 - 1, 1 << 53} {
		got, err := price.Tick(float64(n), 0)
		holds(t, "Tick", n, got, err, n, api.OK)
	}
	for range 100000 {
		n := int64(x.word() >> (11 + x.next(50)))
		got, err := price.Tick(float64(n), 0)
		holds(t, "Tick", n, got, err, n, api.OK)
	}
}

func TestTickDoesNotFall(t *testing.T) {
	x := noise(53)
	for range 2000 {
		scale := x.next(19)
		prices := []float64{0, tiny, math.MaxFloat64}
		for range 20 {
			at := math.Ldexp(float64(x.word()>>11), x.next(90)-80)
			prices = append(prices, at, math.Nextafter(at, inf), math.Nextafter(at, 0))
		}
		slices.Sort(prices)
		last, over := int64(0), false
		for _, at := range prices {
			got, err := price.Tick(at, scale)
			if err == nil && (over || got < last) {
				t.Errorf("Tick(%v, %d) is %d behind %d (above MaxAmount: %v)", at, scale, got, last, over)
			}
			last, over = got, over || err != nil
		}
		if !over {
			t.Errorf("nothing was above MaxAmount")
		}
	}
}
