package margin

import (
	"cmp"
	"math/big"
	"slices"

	"custody/api"
)

// whole is all of something, in hundredths of a per cent.
const whole = 10000

func isHaircut(n int) bool { return n >= 0 && n <= whole }

// checkPool is what is wrong with a pool whose price has so many digits behind the point.
func checkPool(p api.Pool, scale int) error {
	if scale < 0 || scale > api.MaxScale {
		return api.ErrArg
	}
	if p.Qty < 0 || p.Price < 0 {
		return api.ErrAmount
	}
	if !isHaircut(p.Haircut) {
		return api.ErrArg
	}
	return nil
}

// worth is what one unit of a pool is worth, exactly: above over below, which both may have more than 64 bits.
type worth struct{ above, below *big.Int }

func worthOf(p api.Pool, scale int) worth {
	above, below := big.NewInt(p.Price), big.NewInt(10)
	above.Mul(above, big.NewInt(int64(whole-p.Haircut)))
	below.Exp(below, big.NewInt(int64(scale)), nil)
	below.Mul(below, big.NewInt(whole))
	return worth{above, below}
}

// of is what a quantity is worth, rounded down once.
func (w worth) of(qty int64) (int64, error) {
	n := big.NewInt(qty)
	n.Mul(n, w.above)
	n.Quo(n, w.below)
	if !n.IsInt64() {
		return 0, api.ErrOver
	}
	return n.Int64(), nil
}

// least is the least quantity that is worth so much; there is one, or value is 0.
func (w worth) least(value int64) int64 {
	if value == 0 {
		return 0
	}
	n := big.NewInt(value)
	n.Mul(n, w.below)
	n.Add(n, w.above)
	n.Sub(n, big.NewInt(1)) // so that the quotient is rounded up
	return n.Quo(n, w.above).Int64()
}

// valuesOf are the values of pools.
func valuesOf(l []api.Pool, scale int) ([]int64, error) {
	values := make([]int64, len(l))
	for i, p := range l {
		n, err := Value(p, scale)
		if err != nil {
			return nil, err
		}
		values[i] = n
	}
	return values, nil
}

// byHaircut is the places of pools, those with the least haircut first, of equals in the order of the list.
func byHaircut(l []api.Pool) []int {
	order := make([]int, len(l))
	for i := range order {
		order[i] = i
	}
	slices.SortStableFunc(order, func(i, j int) int { return cmp.Compare(l[i].Haircut, l[j].Haircut) })
	return order
}
