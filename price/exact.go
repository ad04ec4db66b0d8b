package price

import (
	"math/big"

	"custody/amount"
	"custody/api"
)

func whole(n int64) *big.Rat { return big.NewRat(n, 1) }

// product is the product of numbers, exactly.
func product(numbers ...*big.Rat) *big.Rat {
	p := whole(1)
	for _, x := range numbers {
		p.Mul(p, x)
	}
	return p
}

// tenTo is 10^scale; up to MaxScale it is a float exactly, too.
func tenTo(scale int) int64 {
	n := int64(1)
	for range scale {
		n *= 10
	}
	return n
}

// rounded is a number that isn't below 0, rounded by a mode.
func rounded(x *big.Rat, mode int) (int64, error) {
	down, rest := new(big.Int).QuoRem(x.Num(), x.Denom(), new(big.Int))
	if !down.IsInt64() {
		return 0, api.ErrOver
	}
	n := down.Int64()
	odd := n % 2
	// A mode asks of a number whether it is odd and on which side of a half its rest lies, and no more: so layer 1 can round a small number in its place.
	small, err := amount.MulDiv(4*odd+quarters(rest, x.Denom()), 1, 4, mode)
	if err != nil {
		return 0, err
	}
	return amount.Add(n-odd, small)
}

// quarters stand for a rest over what divides: none, 1 for less than a half, 2 for a half, 3 for more.
func quarters(rest, by *big.Int) int64 {
	if rest.Sign() == 0 {
		return 0
	}
	double := new(big.Int).Lsh(rest, 1)
	return int64(2 + double.Cmp(by))
}
