package match_test

import (
	"math/big"
	"regexp"
	"slices"
	"strings"

	"custody/api"
	"custody/notice"
	"custody/proof"
)

var bicForm = regexp.MustCompile(`\A[A-Z]{6}[0-9A-Z]{2}([0-9A-Z]{3})?\z`)

// sameBic tells whether two texts are the same BIC.
func sameBic(a, b string) bool {
	head := func(s string) string {
		if len(s) == 11 {
			return strings.TrimSuffix(s, "XXX")
		}
		return s
	}
	return bicForm.MatchString(a) && bicForm.MatchString(b) && head(a) == head(b)
}

// reckoned is what Fit should answer.
func reckoned(deliver, receive api.Side, bics []string, tolerance int64) (int64, bool) {
	d, r := deliver.Notice, receive.Notice
	of := func(party int) string {
		for n, bic := range bics {
			if n == party {
				return bic
			}
		}
		return ""
	}
	for _, ok := range []bool{
		!d.Receive, r.Receive, !d.Cancel, !r.Cancel, d.Trade == r.Trade, d.Settle == r.Settle, d.Code == r.Code, d.Qty == r.Qty, d.Pay == r.Pay, d.Account == r.Other, r.Account == d.Other,
		sameBic(d.Agent, of(receive.Party)), sameBic(r.Agent, of(deliver.Party)),
	} {
		if !ok {
			return 0, false
		}
	}
	if !d.Pay {
		return 0, true
	}
	apart := new(big.Int).Sub(big.NewInt(d.Amount), big.NewInt(r.Amount))
	if d.Currency != r.Currency || apart.CmpAbs(big.NewInt(tolerance)) > 0 || tolerance < 0 {
		return 0, false
	}
	return d.Amount, true
}

// paper is a second reckoning of a book: nothing but rows, gone through from the first on.
type paper struct {
	bics      []string
	tolerance int64
	rows      []row
	pairs     []api.Pair
}

// row is a side; in which pair it is (-1: none), and whether it is cancelled or wants to be.
type row struct {
	side       api.Side
	pair       int
	gone, asks bool
}

func (p *paper) isOpen(n int) bool { return p.rows[n].pair < 0 && !p.rows[n].gone }

func (p *paper) find(party int, ref string) int {
	return slices.IndexFunc(p.rows, func(x row) bool { return x.side.Party == party && x.side.Notice.Ref == ref })
}

func (p *paper) Add(s api.Side) (int, int, error) {
	if err := notice.Check(s.Notice); err != nil {
		return 0, 0, err
	}
	if s.Notice.Cancel {
		return 0, 0, api.ErrKind
	}
	if proof.Outside(s.Party, 0, len(p.bics)-1) {
		return 0, 0, api.ErrLost
	}
	if p.find(s.Party, s.Notice.Ref) >= 0 {
		return 0, 0, api.ErrTwice
	}
	own := len(p.rows)
	p.rows = append(p.rows, row{side: s, pair: -1})
	for n := range own {
		if !p.isOpen(n) {
			continue
		}
		for _, x := range [][2]int{{n, own}, {own, n}} {
			if amount, ok := reckoned(p.rows[x[0]].side, p.rows[x[1]].side, p.bics, p.tolerance); ok {
				p.rows[n].pair, p.rows[own].pair = len(p.pairs), len(p.pairs)
				p.pairs = append(p.pairs, pair(x[0], x[1], amount))
				return own, len(p.pairs) - 1, nil
			}
		}
	}
	return own, -1, nil
}

func (p *paper) Cancel(party int, ref string) (bool, error) {
	n := p.find(party, ref)
	if n < 0 {
		return false, api.ErrLost
	}
	x := &p.rows[n]
	if x.gone {
		return false, api.ErrFinal
	}
	x.asks = true
	for _, y := range p.rows {
		if x.pair >= 0 && y.pair == x.pair && !y.asks {
			return false, nil
		}
	}
	was := x.pair
	for m := range p.rows {
		if m == n || was >= 0 && p.rows[m].pair == was {
			p.rows[m].gone = true
		}
	}
	return true, nil
}

func (p *paper) Open() []int {
	return p.those(func(api.Side) bool { return true })
}

func (p *paper) those(want func(s api.Side) bool) []int {
	var l []int
	for n, x := range p.rows {
		if p.isOpen(n) && want(x.side) {
			l = append(l, n)
		}
	}
	return l
}

func (p *paper) Pairs() []api.Pair {
	return slices.DeleteFunc(slices.Clone(p.pairs), func(x api.Pair) bool { return p.rows[x.Receive].gone })
}

func (p *paper) Side(n int) (api.Side, bool) {
	for m, x := range p.rows {
		if m == n {
			return x.side, true
		}
	}
	return api.Side{}, false
}

func (p *paper) Alleged(party int) []int {
	var l []int
	for n, bic := range p.bics {
		if n == party {
			l = p.those(func(s api.Side) bool { return sameBic(s.Notice.Agent, bic) })
		}
	}
	return l
}
