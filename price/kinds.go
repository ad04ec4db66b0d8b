package price

import (
	"math"
	"math/big"
	"slices"
	"sort"

	"custody/api"
	"custody/calendar"
	"custody/codes"
)

const (
	millionths = 1000000 // a coupon's whole face
	percent    = 100
)

// kind is a security that answers as its kind does.
type kind interface {
	named() bool                                       // its code is one that this kind may have
	terms() error                                      // what is wrong with its other numbers
	coupons() ([]int, error)                           // rising
	interest(day int) (*big.Rat, error)                // accrued on one unit, exactly
	quoted() (*big.Rat, error)                         // what one unit costs at the price 1
	discounted(rate float64, day int) (float64, error) // what one unit costs at a rate
}

// kindOf is a security as its kind, or nil where it is of none.
func kindOf(s api.Security) kind {
	switch s.Kind {
	case api.Equity:
		return equity{simple{s}}
	case api.Bond:
		return bond{loan{s}}
	case api.Bill:
		return bill{loan{s}}
	case api.Cash:
		return cash{simple{s}}
	}
	return nil
}

// checked is a security as its kind, once nothing is wrong with it.
func checked(s api.Security) (kind, error) {
	k := kindOf(s)
	if k == nil {
		return nil, api.ErrKind
	}
	if !k.named() || codes.Currency(s.Currency) != nil {
		return nil, api.ErrForm
	}
	if err := k.terms(); err != nil {
		return nil, err
	}
	return k, nil
}

// simple is a security that nobody owes: it bears no interest and has no end.
type simple struct{ api.Security }

func (s simple) terms() error {
	if s.Face != 0 || s.Coupon != 0 || s.Per != 0 || s.Basis != 0 || s.Start != 0 || s.End != 0 {
		return api.ErrArg
	}
	return nil
}

func (simple) coupons() ([]int, error) { return nil, api.ErrKind }

func (simple) interest(int) (*big.Rat, error) { return new(big.Rat), nil }

func (simple) discounted(float64, int) (float64, error) { return 0, api.ErrKind }

type equity struct{ simple }

func (e equity) named() bool { return isIsin(e.Code) }

func (equity) quoted() (*big.Rat, error) { return whole(1), nil }

type cash struct{ simple }

func (c cash) named() bool { return c.Code == api.Isin{} }

func (cash) quoted() (*big.Rat, error) { return nil, api.ErrKind }

// loan is a security that someone owes from its Start to its End.
type loan struct{ api.Security }

func (l loan) named() bool { return isIsin(l.Code) }

func (l loan) quoted() (*big.Rat, error) { return big.NewRat(l.Face, percent), nil }

// span is what is wrong with its basis and its days.
func (l loan) span() error {
	if l.Basis < api.Act360 || l.Basis > api.ThirtyEu {
		return api.ErrArg
	}
	if !isDay(l.Start) || !isDay(l.End) || l.End <= l.Start {
		return api.ErrDate
	}
	return nil
}

// runs tells whether a day is one from its Start to its End.
func (l loan) runs(day int) bool { return l.Start <= day && day <= l.End }

type bond struct{ loan }

func (b bond) terms() error {
	if b.Face < 1 {
		return api.ErrAmount
	}
	if b.Coupon < 0 || b.Coupon > millionths {
		return api.ErrArg
	}
	switch b.Per {
	case 1, 2, 4, 12:
		return b.span()
	}
	return api.ErrArg
}

func (b bond) coupons() ([]int, error) {
	var days []int
	for k := 0; ; k++ {
		day, ok := b.coupon(k)
		if !ok {
			break
		}
		days = append(days, day)
	}
	slices.Reverse(days)
	return days, nil
}

// coupon is the coupon day with k behind it, or false where there are not as many.
func (b bond) coupon(k int) (int, bool) {
	// Each is reckoned from End: reckoned from one another, a month's short end would be handed on.
	day, err := calendar.Months(b.End, -k*(12/b.Per))
	if err != nil || day <= b.Start {
		return 0, false
	}
	return day, true
}

// since is the day from which interest has accrued on a day.
func (b bond) since(day int) int {
	// The coupon days fall as k rises, so they can be halved; no more of them lie behind day than days do.
	k := sort.Search(b.End-day, func(k int) bool {
		paid, ok := b.coupon(k)
		return !ok || paid <= day
	})
	if paid, ok := b.coupon(k); ok {
		return paid
	}
	return b.Start
}

func (b bond) interest(day int) (*big.Rat, error) {
	if !b.runs(day) {
		return nil, api.ErrDate
	}
	above, below, err := calendar.Fraction(b.since(day), day, b.Basis)
	if err != nil {
		return nil, err
	}
	return product(whole(b.Face), big.NewRat(b.Coupon, millionths), big.NewRat(int64(above), int64(below))), nil
}

func (bond) discounted(float64, int) (float64, error) { return 0, api.ErrKind }

type bill struct{ loan }

func (b bill) terms() error {
	if b.Face < 1 {
		return api.ErrAmount
	}
	if b.Coupon != 0 || b.Per != 0 {
		return api.ErrArg
	}
	return b.span()
}

func (bill) coupons() ([]int, error) { return nil, api.ErrKind }

func (bill) interest(int) (*big.Rat, error) { return new(big.Rat), nil }

func (b bill) discounted(rate float64, day int) (float64, error) {
	if !b.runs(day) {
		return 0, api.ErrDate
	}
	if math.IsNaN(rate) || math.IsInf(rate, 0) {
		return 0, api.ErrArg
	}
	above, below, err := calendar.Fraction(day, b.End, b.Basis)
	if err != nil {
		return 0, err
	}
	f := float64(above) / float64(below)
	g := float64(rate * f) // rounded by itself: without the conversion it may be fused with the sum
	h := 1 + g
	if h <= 0 {
		return 0, api.ErrArg
	}
	return float64(b.Face) / h, nil
}

func isIsin(c api.Isin) bool {
	_, err := codes.Isin(codes.Text(c))
	return err == nil
}

func isDay(n int) bool {
	_, err := calendar.Of(n)
	return err == nil
}
