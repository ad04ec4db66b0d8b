package notice

import (
	"custody/api"
	"custody/calendar"
	"custody/codes"
)

const (
	refSize     = 16 // the longest reference
	maxPriority = 9999
)

// checkTerms is the first thing that is wrong with what a notice says of itself. The cases stand in the order of the refusals; none tells the place that codes may tell.
func checkTerms(n api.Notice) error {
	switch {
	case !isReference(n.Ref), n.Cancel && !isReference(n.Prev), !n.Cancel && n.Prev != "":
		return api.ErrText
	case !isDay(n.Trade), !isDay(n.Settle), n.Settle < n.Trade:
		return api.ErrDate
	case !isIsin(n.Code):
		return api.ErrForm
	case n.Qty < 1:
		return api.ErrAmount
	case codes.Account(n.Account) != nil:
		return api.ErrAccount
	case !isBic(n.Agent):
		return api.ErrForm
	case codes.Account(n.Other) != nil:
		return api.ErrAccount
	case n.Pay && n.Amount < 1:
		return api.ErrAmount
	case n.Pay && codes.Currency(n.Currency) != nil:
		return api.ErrForm
	case !n.Pay && (n.Amount != 0 || n.Currency != ""), n.Priority < 0, n.Priority > maxPriority:
		return api.ErrArg
	}
	return nil
}

// checkLinks is the first thing that is wrong with a notice's links.
func checkLinks(n api.Notice) error {
	if len(n.Links) > api.MaxLinks {
		return api.ErrMany
	}
	for _, link := range n.Links {
		switch {
		case link.Kind < api.With, link.Kind > api.After:
			return api.ErrKind
		case !isReference(link.Ref):
			return api.ErrText
		case link.Ref == n.Ref:
			return api.ErrSame
		}
	}
	return nil
}

// isReference tells whether a text is 1 to 16 digits and capitals. An account is just so, and may be longer.
func isReference(s string) bool { return len(s) <= refSize && codes.Account(s) == nil }

func isDay(n int) bool {
	_, err := calendar.Of(n)
	return err == nil
}

func isIsin(code api.Isin) bool {
	_, err := codes.Isin(codes.Text(code))
	return err == nil
}

func isBic(s string) bool {
	_, err := codes.Bic(s)
	return err == nil
}
