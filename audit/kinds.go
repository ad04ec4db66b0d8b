package audit

import (
	"slices"

	"custody/api"
	"custody/ledger"
)

// hasReturned tells whether an operation has been answered.
func hasReturned(x api.Call) bool { return x.Returned != 0 }

// isRead tells whether a call is a snapshot that read at a number.
func isRead(x api.Call) bool {
	return x.Op.Code == api.OpSnapshot && hasReturned(x) && x.Answer.Err == api.OK
}

// isNumbered tells whether a call has a number of its own.
func isNumbered(x api.Call) bool { return x.Op.Code != api.OpSnapshot && x.Number != 0 }

// isRefusedRow tells whether a call had a row of which no operation came.
func isRefusedRow(x api.Call) bool {
	refused := sameAnswer(x.Answer, api.Answer{Err: api.ErrShort}) || sameAnswer(x.Answer, api.Answer{Err: api.ErrLong})
	return refused && hasReturned(x) && isZero(x.Op)
}

// isZero tells whether an operation is the zero one.
func isZero(o api.Op) bool {
	return o.Code == 0 && o.Account == 0 && o.Asset == 0 && o.Qty == 0 && o.Name == 0 && o.Id == 0 && len(o.Legs) == 0 && len(o.Pairs) == 0
}

// untimely tells whether the times of a call are none that a call can have.
func untimely(x api.Call) bool {
	return x.Invoked < 1 || hasReturned(x) && x.Returned <= x.Invoked
}

// wasOver tells whether what was over at one time (0: it wasn't) was so when another thing was invoked.
func wasOver(over, invoked int) bool { return over != 0 && over < invoked }

// answered is what a ledger answers a call. Of a refused row it can't be asked, as there is no operation: that is taken to be answered so.
func answered(books *ledger.Ledger, x api.Call) api.Answer {
	if isRefusedRow(x) {
		return x.Answer
	}
	return books.Do(x.Op)
}

// Nil and an empty list are the same in all that follows.

func samePosition(a, b api.Position) bool {
	return a.Avail == b.Avail && slices.Equal(a.Marks, b.Marks)
}

func sameAnswer(a, b api.Answer) bool {
	return a.Err == b.Err && a.Status == b.Status && slices.EqualFunc(a.Positions, b.Positions, samePosition)
}

func sameBalance(a, b api.Balance) bool {
	return a.Key == b.Key && samePosition(a.Position, b.Position)
}

func sameInstruction(a, b api.Instruction) bool {
	return a.Id == b.Id && a.Record.Status == b.Record.Status && slices.Equal(a.Record.Legs, b.Record.Legs)
}

func sameState(a, b api.State) bool {
	return slices.EqualFunc(a.Balances, b.Balances, sameBalance) && slices.EqualFunc(a.Instructions, b.Instructions, sameInstruction) && slices.Equal(a.Queue, b.Queue)
}
