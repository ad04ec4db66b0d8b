package margin_test

import (
	"math"
	"math/big"
	"slices"
	"testing"

	"custody/api"
	"custody/margin"
	"custody/proof"
)

// valueOf is what so much of a pool is worth.
func valueOf(t *testing.T, p api.Pool, qty int64, scale int) int64 {
	t.Helper()
	p.Qty = qty
	n, err := margin.Value(p, scale)
	if err != nil {
		t.Fatalf("%+v, %d: %v", p, scale, err)
	}
	return n
}

// sumOf are amounts together, without bounds.
func sumOf(l []int64) *big.Int {
	sum := new(big.Int)
	for _, n := range l {
		sum.Add(sum, big.NewInt(n))
	}
	return sum
}

// rightPools are pools of which none is refused, with a scale.
func rightPools(d *proof.Dice) ([]api.Pool, int) {
	scale := proof.Of(d, 0, 1, 2, d.Below(19))
	var l []api.Pool
	for range 1 + d.Below(8) {
		p := throwPool(d)
		if d.Below(2) == 0 {
			p.Haircut = 500 * d.Below(4)
		}
		if _, no := valueAgain(p, scale); no == api.OK {
			l = append(l, p)
		}
	}
	return l, scale
}

// TestCollateralCovers is P25.12.
func TestCollateralCovers(t *testing.T) {
	d := proof.Dice(2520)
	var covered, not, whole, over int
	for range 15000 {
		l, scale := rightPools(&d)
		need := max(0, throwNeed(&d, l, scale))
		var all, parts []int64
		for _, p := range l {
			all = append(all, valueOf(t, p, p.Qty, scale))
		}
		taken, err := margin.Draw(l, need, scale)
		if enough := sumOf(all).Cmp(big.NewInt(need)) >= 0; !enough {
			draws(t, l, need, scale, nil, api.ErrCover)
			not++
			continue
		}
		if err != nil || len(taken) != len(l) {
			t.Fatalf("Draw of %+v, %d, %d is %v, %v", l, need, scale, taken, err)
		}
		covered++
		for i, p := range l {
			if taken[i] < 0 || taken[i] > p.Qty {
				t.Fatalf("Draw of %+v, %d, %d is %v", l, need, scale, taken)
			}
			parts = append(parts, valueOf(t, p, taken[i], scale))
			if taken[i] > 0 && valueOf(t, p, taken[i]-1, scale) >= parts[i] {
				t.Fatalf("Draw of %+v, %d, %d is %v: one less of the pool %d is worth as much", l, need, scale, taken, i)
			}
		}
		together := sumOf(parts).Cmp(big.NewInt(need))
		if together < 0 {
			t.Fatalf("Draw of %+v, %d, %d is %v, worth %v: too little", l, need, scale, taken, parts)
		}
		if together > 0 {
			over++
		}
		for i, p := range l {
			for k, q := range l {
				if parts[i] < all[i] && q.Haircut > p.Haircut && taken[k] > 0 {
					t.Fatalf("Draw of %+v, %d, %d is %v: %d is taken of, and not all of %d", l, need, scale, taken, k, i)
				}
			}
		}
		if slices.Equal(parts, all) && need > 0 {
			whole++
		}
	}
	if covered < 5000 || not < 500 || whole < 500 || over < 500 {
		t.Errorf("%d were covered, %d not, %d gave all, %d too much", covered, not, whole, over)
	}
}

// TestCoverIsTheLimit: what pools are worth together can be drawn, and one more can't.
func TestCoverIsTheLimit(t *testing.T) {
	d := proof.Dice(2521)
	seen := 0
	for range 5000 {
		l, scale := rightPools(&d)
		sum, err := margin.Limit(l, scale)
		if err != nil || sum == most {
			continue
		}
		seen++
		if _, err := margin.Draw(l, sum, scale); err != nil {
			t.Fatalf("Draw of %+v, %d, %d: %v", l, sum, scale, err)
		}
		draws(t, l, sum+1, scale, nil, api.ErrCover)
	}
	if seen < 1000 {
		t.Errorf("%d limits", seen)
	}
}

// wholeRow is up to 64 whole numbers from -2^20 to 2^20.
func wholeRow(d *proof.Dice, n int) []float64 {
	size := proof.Of(d, 1, 3, 100, 1<<20)
	var l []float64
	for range n {
		l = append(l, float64(d.Below(2*size+1)-size))
	}
	return l
}

// doubled are all numbers doubled.
func doubled(l []float64) []float64 {
	var out []float64
	for _, x := range l {
		out = append(out, 2*x)
	}
	return out
}

// TestScales is P25.13: of numbers that are doubled all is doubled.
func TestScales(t *testing.T) {
	d := proof.Dice(2522)
	for range 4000 {
		l := wholeRow(&d, 1+d.Below(64))
		x, _ := margin.Mean(l)
		means(t, doubled(l), 2*x, api.OK)
		x, _ = margin.Deviation(l)
		deviates(t, doubled(l), 2*x, api.OK)
		fade := proof.Of(&d, 1.0/1024, 1, 0.94, before(1), next(1.0/1024), 1.0/1024+math.Abs(throwPart(&d))*1023/1024)
		x, _ = margin.Smooth(l, fade)
		smooths(t, doubled(l), fade, 2*x, api.OK)
		l = wholeRow(&d, 1<<d.Below(7))
		s, _ := margin.Spectrum(l)
		var want []complex128
		for _, x := range s {
			want = append(want, complex(2*real(x), 2*imag(x)))
		}
		spreads(t, doubled(l), want, api.OK)
	}
}

// TestNumbersThatAreAllTheSame is P25.13: they deviate by nothing, and all of their spectrum but its first is 0.
func TestNumbersThatAreAllTheSame(t *testing.T) {
	d := proof.Dice(2523)
	for n := 1; n <= 64; n++ {
		for _, x := range row(0, 1, -1, 3, 1<<20, -1<<20, wholeRow(&d, 1)[0]) {
			l := slices.Repeat(row(x), n)
			means(t, l, x, api.OK)
			deviates(t, l, 0, api.OK)
			if n&(n-1) != 0 {
				continue
			}
			want := make([]complex128, n)
			want[0] = complex(x*float64(n), 0)
			if s, err := margin.Spectrum(l); err != nil || !slices.Equal(s, want) {
				t.Errorf("the spectrum of %d times %v is %v, %v", n, x, s, err)
			}
		}
	}
}

// TestSpectrumOfOneNumber is P25.13: of a number with 0s behind it all of the spectrum is that number.
func TestSpectrumOfOneNumber(t *testing.T) {
	d := proof.Dice(2524)
	for n := 1; n <= 64; n *= 2 {
		for _, x := range row(0, 1, -1, 7, 1<<20, -1<<20, wholeRow(&d, 1)[0]) {
			l := make([]float64, n)
			l[0] = x
			if s, err := margin.Spectrum(l); err != nil || !slices.Equal(s, slices.Repeat(parts(x, 0), n)) {
				t.Errorf("the spectrum of %v is %v, %v", l, s, err)
			}
		}
	}
}

// TestSpectrumBeginsWithTheSum is P25.13.
func TestSpectrumBeginsWithTheSum(t *testing.T) {
	d := proof.Dice(2525)
	for range 1000 {
		l := wholeRow(&d, 1<<d.Below(7))
		sum := 0.0
		for _, x := range l {
			sum += x
		}
		if s, err := margin.Spectrum(l); err != nil || s[0] != complex(sum, 0) {
			t.Fatalf("the spectrum of %v begins with %v, %v", l, s[0], err)
		}
	}
}

// risen is a number that is not below x.
func risen(d *proof.Dice, x float64) float64 {
	return proof.Of(d, x, next(x), x+math.Abs(throwPart(d))/100, x*2)
}

// TestHaircutDoesNotFall is P25.14.
func TestHaircutDoesNotFall(t *testing.T) {
	d := proof.Dice(2526)
	rose := 0
	for range 20000 {
		volatility, days, floor := math.Abs(throwPart(&d))/proof.Of(&d, row(1, 10, 100)...), d.Below(50), proof.Of(&d, 0, d.Below(10001))
		low, err := margin.Haircut(volatility, days, floor)
		high, again := margin.Haircut(risen(&d, volatility), days+d.Below(3), min(10000, floor+d.Below(3)))
		if err != nil || again != nil || low > high || low < floor || high > 10000 {
			t.Fatalf("of %v, %d, %d: %d, then %d; %v, %v", volatility, days, floor, low, high, err, again)
		}
		if low < high {
			rose++
		}
	}
	if rose < 5000 {
		t.Errorf("it rose %d times", rose)
	}
}

// TestValueDoesNotFall is P25.14.
func TestValueDoesNotFall(t *testing.T) {
	d := proof.Dice(2527)
	rose := 0
	for range 20000 {
		l, scale := rightPools(&d)
		for _, p := range l {
			n := valueOf(t, p, p.Qty, scale)
			less := p
			less.Qty -= min(less.Qty, int64(d.Below(3)))
			less.Price -= min(less.Price, int64(d.Below(3)))
			less.Haircut = min(10000, less.Haircut+d.Below(3))
			part := valueOf(t, less, less.Qty, scale)
			if part > n {
				t.Fatalf("%+v is worth %d, and %+v %d, at %d", p, n, less, part, scale)
			}
			if part < n {
				rose++
			}
		}
	}
	if rose < 5000 {
		t.Errorf("it rose %d times", rose)
	}
}
