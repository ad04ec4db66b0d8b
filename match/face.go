package match

import (
	"custody/api"
	"custody/codes"
)

// office is whom a BIC names, as one may be written in two ways; the zero one is nobody.
type office [4]string

func officeOf(bic string) office {
	parts, _ := codes.Bic(bic) // of a BIC that is refused there are none
	return parts
}

// officeAt is the office of one of the parties.
func officeAt(bics []string, party int) office {
	if party < 0 || party >= len(bics) {
		return office{}
	}
	return officeOf(bics[party])
}

// face is what must be the same in both sides. Who delivers stands first in it, whoever tells it, so that two that agree show the same.
type face struct {
	trade, settle int
	code          api.Isin
	qty           int64
	pay           bool
	currency      string // none, if free of payment
	accounts      [2]string
	offices       [2]office
}

// faceOf is the face of a notice that an office has sent.
func faceOf(n api.Notice, sender office) face {
	f := face{trade: n.Trade, settle: n.Settle, code: n.Code, qty: n.Qty, pay: n.Pay}
	if n.Pay {
		f.currency = n.Currency
	}
	f.accounts, f.offices = [2]string{n.Account, n.Other}, [2]office{sender, officeOf(n.Agent)}
	if n.Receive {
		f.accounts, f.offices = [2]string{n.Other, n.Account}, [2]office{officeOf(n.Agent), sender}
	}
	return f
}

// isWhole tells whether both offices are somebody: nobody is not the same as nobody.
func (f face) isWhole() bool { return f.offices[0] != office{} && f.offices[1] != office{} }

// isNear tells whether the amounts of two notices of one face lie close enough to each other.
func isNear(a, b api.Notice, tolerance int64) bool {
	if !a.Pay {
		return true
	}
	low, high := min(a.Amount, b.Amount), max(a.Amount, b.Amount)
	apart := uint64(high) - uint64(low) // right, also where it is beyond an int64
	return tolerance >= 0 && apart <= uint64(tolerance)
}

// worth is what a notice is settled for.
func worth(n api.Notice) int64 {
	if !n.Pay {
		return 0
	}
	return n.Amount
}
