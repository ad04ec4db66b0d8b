package proof

import "custody/api"

// ask is one thing that is looked at: the refusal, if the thing is wrong.
type ask struct {
	no    api.Errno
	wrong bool
}

// Outside tells whether a number is not from low to high.
func Outside(n int, low, high int) bool { return n < low || n > high }

// below tells whether a number is from 0 to one below a bound.
func below(n, bound int) bool { return bound > 0 && !Outside(n, 0, bound-1) }

// asksOf is the document's first table of operations: all that is looked at of one, in its order.
func asksOf(c api.Config, o api.Op) []ask {
	account := func(n int) ask { return ask{api.ErrAccount, !below(n, c.Accounts)} }
	asset := func(n int) ask { return ask{api.ErrAsset, !below(n, c.Assets)} }
	amount := func(n int64) ask { return ask{api.ErrAmount, n <= 0} }
	id := ask{api.ErrArg, Outside(o.Id, 1, 1<<40)}
	held := []ask{account(o.Account), asset(o.Asset), amount(o.Qty)}
	switch o.Code {
	case 1, 2:
		return held
	case 3, 4:
		return append(held, ask{api.ErrMark, Outside(o.Name, 1, 65536)})
	case 5:
		l := []ask{id, {api.ErrShort, len(o.Legs) == 0}, {api.ErrMany, len(o.Legs) > 4}}
		for _, x := range o.Legs {
			l = append(l, account(x.From), account(x.To), ask{api.ErrSame, x.From == x.To}, asset(x.Asset), amount(x.Qty), ask{api.ErrMark, Outside(x.Name, 0, 65536)})
		}
		return l
	case 6, 7:
		return []ask{id}
	case 8:
		l := []ask{{api.ErrMany, len(o.Pairs) > 64}}
		for _, x := range o.Pairs {
			l = append(l, account(x.Account), asset(x.Asset))
		}
		return l
	}
	return []ask{{api.ErrCode, true}}
}

// Judge is the first thing that is wrong with an operation by itself: a second reckoning of the document's table.
func Judge(c api.Config, o api.Op) api.Errno {
	for _, a := range asksOf(c, o) {
		if a.wrong {
			return a.no
		}
	}
	return api.OK
}
