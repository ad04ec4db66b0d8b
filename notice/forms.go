package notice

import (
	"strconv"
	"strings"

	"custody/amount"
	"custody/api"
	"custody/calendar"
	"custody/codes"
)

const (
	newMessage   = "NEWM"
	cancellation = "CANC"

	isinAhead    = "ISIN "
	unitAhead    = "UNIT/"
	currencySize = 3
	behind       = "," // a number

	dateSize     = 8
	prioritySize = 4
	amountSize   = 19 // the most digits of an amount
)

// types are those of notices: received and then delivered, each free and then against payment.
var types = [4]string{"540", "541", "542", "543"}

// linkWords are the kinds of links, With first.
var linkWords = [3]string{"WITH", "BEFO", "AFTE"}

// form is how the text of a field tells something of a notice: it is told of a notice that Check takes, and taken into one, if it is of the form.
type form struct {
	tell func(n *api.Notice) string
	take func(n *api.Notice, text string) bool
}

// anyText is the form of a text that may be any.
func anyText(at func(n *api.Notice) *string) form {
	return form{
		func(n *api.Notice) string { return strings.Clone(*at(n)) },
		func(n *api.Notice, text string) bool {
			*at(n) = strings.Clone(text)
			return true
		},
	}
}

// date is the form of a day as its year, month and day. Digits that are no date are of the form, and tell the day 0.
func date(at func(n *api.Notice) *int) form {
	return form{
		func(n *api.Notice) string {
			d, _ := calendar.Of(*at(n))
			return padded(d.Year, 4) + padded(d.Month, 2) + padded(d.Day, 2)
		},
		func(n *api.Notice, text string) bool {
			if len(text) != dateSize || !areDigits(text) {
				return false
			}
			d := api.Date{Year: number(text[:4]), Month: number(text[4:6]), Day: number(text[6:])}
			*at(n), _ = calendar.Number(d)
			return true
		},
	}
}

func tellFunction(n *api.Notice) string {
	if n.Cancel {
		return cancellation
	}
	return newMessage
}

func takeFunction(n *api.Notice, text string) bool {
	n.Cancel = text == cancellation
	return n.Cancel || text == newMessage
}

func tellType(n *api.Notice) string {
	at := 0
	if n.Pay {
		at++
	}
	if !n.Receive {
		at += 2
	}
	return types[at]
}

func takeType(n *api.Notice, text string) bool {
	for at, kind := range types {
		if kind == text {
			n.Receive, n.Pay = at < 2, at%2 > 0
			return true
		}
	}
	return false
}

func tellKind(n *api.Notice) string { return linkWords[lastLink(n).Kind-api.With] }

func takeKind(n *api.Notice, text string) bool {
	for i, word := range linkWords {
		if word == text {
			lastLink(n).Kind = api.With + i
			return true
		}
	}
	return false
}

func tellCode(n *api.Notice) string { return isinAhead + codes.Text(n.Code) }

func takeCode(n *api.Notice, text string) bool {
	code, ok := strings.CutPrefix(text, isinAhead)
	if !ok || len(code) != len(n.Code) {
		return false
	}
	n.Code = api.Isin([]byte(code))
	return true
}

func tellPriority(n *api.Notice) string { return padded(n.Priority, prioritySize) }

func takePriority(n *api.Notice, text string) bool {
	if len(text) != prioritySize || !areDigits(text) {
		return false
	}
	n.Priority = number(text)
	return true
}

func tellQty(n *api.Notice) string { return unitAhead + tellAmount(n.Qty) }

func takeQty(n *api.Notice, text string) bool {
	rest, ok := strings.CutPrefix(text, unitAhead)
	return ok && takeAmount(&n.Qty, rest)
}

func tellMoney(n *api.Notice) string { return n.Currency + tellAmount(n.Amount) }

func takeMoney(n *api.Notice, text string) bool {
	if len(text) < currencySize {
		return false
	}
	n.Currency = strings.Clone(text[:currencySize])
	return takeAmount(&n.Amount, text[currencySize:])
}

// tellAmount is an amount and the comma behind it.
func tellAmount(qty int64) string {
	s, _ := amount.Format(qty, 0)
	return s + behind
}

// takeAmount takes digits and the comma behind them. Digits that tell more than an amount are of the form, and tell 0.
func takeAmount(qty *int64, text string) bool {
	digits, ok := strings.CutSuffix(text, behind)
	if !ok || digits == "" || len(digits) > amountSize || !areDigits(digits) {
		return false
	}
	*qty, _ = amount.Parse(digits, 0)
	return true
}

func areDigits(s string) bool {
	for i := range len(s) {
		if s[i] < '0' || s[i] > '9' {
			return false
		}
	}
	return true
}

// number is what a few digits tell.
func number(digits string) int {
	n, _ := strconv.Atoi(digits)
	return n
}

// padded is a number with 0s ahead, so that it has so many digits.
func padded(n, size int) string {
	s := strconv.Itoa(n)
	return strings.Repeat("0", max(size-len(s), 0)) + s
}
