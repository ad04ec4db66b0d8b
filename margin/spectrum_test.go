package margin_test

import (
	"math"
	"math/cmplx"
	"slices"
	"testing"

	"custody/api"
	"custody/margin"
	"custody/proof"
)

func parts(l ...float64) []complex128 {
	var out []complex128
	for i := 0; i < len(l); i += 2 {
		out = append(out, complex(l[i], l[i+1]))
	}
	return out
}

// P25.7

func TestSpectrum(t *testing.T) {
	for _, x := range []struct {
		l    []float64
		want []complex128
	}{
		{row(7), parts(7, 0)},
		{row(-7), parts(-7, 0)},
		{row(0), parts(0, 0)},
		{row(minus0), parts(minus0, 0)},
		{row(huge), parts(huge, 0)},
		{row(1, 2), parts(3, 0, -1, 0)},
		{row(2, 1), parts(3, 0, 1, 0)},
		{row(0, 0), parts(0, 0, 0, 0)},
		{row(minus0, minus0), parts(minus0, 0, 0, 0)},
		{row(5, 5), parts(10, 0, 0, 0)},
		{row(1, 2, 3, 4), parts(10, 0, -2, 2, -2, 0, -2, -2)},
		{row(1, 0, 0, 0), parts(1, 0, 1, 0, 1, 0, 1, 0)},
		{row(0, 1, 0, 0), parts(1, 0, 0, -1, -1, 0, 0, 1)},
		{row(0, 0, 1, 0), parts(1, 0, -1, 0, 1, 0, -1, 0)},
		{row(0, 0, 0, 1), parts(1, 0, 0, 1, -1, 0, 0, -1)},
		{row(1, -1, 1, -1), parts(0, 0, 0, 0, 4, 0, 0, 0)},
	} {
		got, err := margin.Spectrum(x.l)
		if !slices.Equal(got, x.want) || err != nil {
			t.Errorf("Spectrum of %v is %v, %v; not %v", x.l, got, err, x.want)
		}
		agreesOnSpectrum(t, x.l) // of a 0 its sign as well
	}
}

// TestRoots: the spectrum of a 1 at the place 1 shows the powers of the root, which is not rounded as its cosine would be.
func TestRoots(t *testing.T) {
	a, b := -1.0, 0.0
	w := complex(1, 0)
	for n := 2; n <= 1024; n *= 2 {
		if n > 2 {
			a, b = math.Sqrt((1+a)/2), -math.Sqrt((1-a)/2)
		}
		l := make([]float64, n)
		l[1] = 1
		s, err := margin.Spectrum(l)
		if err != nil || s[0] != 1 || n > 2 && s[1] != complex(a, b) || n == 2 && s[1] != -1 {
			t.Fatalf("of %d numbers: %v, %v", n, shown(s), err)
		}
		w = 1
		for k := range n / 2 {
			if s[k] != w || s[k+n/2] != -w {
				t.Fatalf("of %d numbers at %d: %v and %v, not %v", n, k, s[k], s[k+n/2], w)
			}
			p, q := real(w), imag(w)
			w = complex(float64(p*a)-float64(q*b), float64(p*b)+float64(q*a))
		}
	}
}

// TestSpectrumIsATransform: whatever the steps, it is near to the sum of all numbers, each turned about.
func TestSpectrumIsATransform(t *testing.T) {
	d := proof.Dice(2510)
	for n := 1; n <= 256; n *= 2 {
		var l []float64
		for range n {
			l = append(l, throwPart(&d))
		}
		s, err := margin.Spectrum(l)
		if err != nil || len(s) != n {
			t.Fatalf("of %d numbers: %d, %v", n, len(s), err)
		}
		for k := range s {
			var sum complex128
			for i, x := range l {
				sum += complex(x, 0) * cmplx.Exp(complex(0, -2*math.Pi*float64(i*k%n)/float64(n)))
			}
			if cmplx.Abs(sum-s[k]) > 1e-11 {
				t.Errorf("of %d numbers at %d: %v, not %v", n, k, s[k], sum)
			}
		}
	}
}

// TestNoPowerOfTwo: all lengths up to 1024.
func TestNoPowerOfTwo(t *testing.T) {
	l := make([]float64, 1024)
	l[0] = 1
	for n := 1; n <= 1024; n++ {
		if n&(n-1) != 0 {
			refusedOf1024(t, l[:n], api.ErrArg)
			continue
		}
		spreads(t, l[:n], slices.Repeat(parts(1, 0), n), api.OK)
	}
	for _, n := range []int{3, 5, 1023} { // ahead of ErrOver
		refusedOf1024(t, slices.Repeat(row(huge), n), api.ErrArg)
	}
}

// TestSpectrumIsOver: one of the parts is enough.
func TestSpectrumIsOver(t *testing.T) {
	for _, l := range [][]float64{
		row(huge, huge), row(huge, -huge), row(-huge, -huge), row(huge, 0, huge, 0), row(0, huge, 0, -huge), row(0, 0, 0, huge, 0, 0, 0, huge), row(huge, huge, -huge, -huge), row(1e308, 1e308, 0, 0), row(0, 1e308, 0, 1e308),
	} {
		refusedOf1024(t, l, api.ErrOver)
	}
	spreads(t, row(huge/2, huge/2), parts(huge, 0, 0, 0), api.OK)
	spreads(t, row(huge, 0), parts(huge, 0, huge, 0), api.OK)
}

// P25.8

func TestPeriod(t *testing.T) {
	for _, x := range []struct {
		l    []float64
		want int
	}{
		{row(1, 2), 1},
		{row(-1, 1), 1},
		{row(1, 2, 3, 4), 1},
		{row(1, -1, 1, -1), 2},
		{row(1, 0, -1, 0), 1},
		{row(3, 1, -1, -3), 1},
		{row(3, -1, 1, -3), 2},
		{row(3, -2, 3, -3), 2},
		// of equal powers the least
		{row(1, 0), 1},
		{row(1, 0, 0, 0), 1},
		{row(0, 0, 1, 0), 1},
		{row(9, 0, 0, 0, 0, 0, 0, 0), 1},
		{row(1, 1, -1, -1, 1, 1, -1, -1), 2},
		{row(1, 0, 0, 0, 1, 0, 0, 0), 2}, // the powers are 0, 4, 0, 4
		{row(1, 0, 1, 0), 2},
	} {
		goesRound(t, x.l, x.want, api.OK)
	}
	for _, n := range []int{2, 4, 8, 64, 1024} {
		for _, k := range []int{1, 2, 3, n/4 + 1, n/2 - 1, n / 2} {
			if k < 1 || k > n/2 {
				continue
			}
			var l []float64
			for i := range n {
				l = append(l, 5+math.Cos(2*math.Pi*float64(k*i%n)/float64(n)))
			}
			goesRound(t, l, k, api.OK)
		}
	}
}

// TestNoPeriod: there is no place behind the first, or all of them have no power.
func TestNoPeriod(t *testing.T) {
	for _, l := range [][]float64{row(7), row(0), row(minus0), row(huge), row(5, 5), row(0, 0), row(minus0, 0), row(0, 0, 0, 0), row(-3, -3, -3, -3), row(1e200, 1e200, 1e200, 1e200), row(1e-170, 0), row(1e-170, 0, 0, 0)} {
		goesRound(t, l, 0, api.ErrLost)
	}
}

// TestPeriodIsOver: the spectrum is finite, and a power is not; the first place doesn't count.
func TestPeriodIsOver(t *testing.T) {
	for _, l := range [][]float64{row(1e155, 0), row(0, -1e155), row(1e155, -1e155), row(1e155, 0, 0, 0), row(1e155, 0, 1e155, 0), row(1e155, 0, -1e155, 0), row(0, 1e154, 0, -1e154), row(1e154, 1e154, -1e154, -1e154)} {
		if _, err := margin.Spectrum(l); err != nil {
			t.Errorf("Spectrum of %v: %v", l, err)
		}
		goesRound(t, l, 0, api.ErrOver)
	}
	goesRound(t, row(0x1p515, 0x1p515, 0x1p515, 0x1p515+0x1p490), 1, api.OK)
}
