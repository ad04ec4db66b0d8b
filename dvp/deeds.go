package dvp

import (
	"errors"
	"slices"

	"custody/api"
	"custody/balance"
)

// do does an operation that is right by itself, and no Snapshot, on a sheet of its keys: the status that it answers, or its refusal.
func (s sheet) do(o api.Op, room bool) (int, error) {
	switch o.Code {
	case api.OpSubmit:
		return s.submit(o, room)
	case api.OpCancel:
		return s.cancel(o.Id)
	case api.OpStatus:
		return s.status(o.Id)
	}
	return api.None, s.turn(positionKey(o), func(p api.Position) (api.Position, error) { return turned(p, o) })
}

// turned is the one position of an operation as it leaves it.
func turned(p api.Position, o api.Op) (api.Position, error) {
	const free = 0 // the name of no mark
	switch o.Code {
	case api.OpDeposit:
		return balance.Credit(p, o.Qty)
	case api.OpWithdraw:
		return balance.Debit(p, o.Qty, free)
	case api.OpMark:
		return balance.Mark(p, o.Qty, o.Name)
	}
	return balance.Unmark(p, o.Qty, o.Name)
}

// submit makes an instruction's record, and moves its legs if they are covered. What would overflow is refused: to wait for cover would not help it.
func (s sheet) submit(o api.Op, room bool) (int, error) {
	r := s.record(o.Id)
	if r.Status != api.None {
		return api.None, api.ErrTwice
	}
	status := api.Settled
	switch err := s.move(o.Legs); {
	case errors.Is(err, api.ErrOver):
		return api.None, err
	case err != nil && !room:
		return api.None, api.ErrFull
	case err != nil:
		status = api.Pending
	}
	*r = api.Record{Status: status, Legs: slices.Clone(o.Legs)}
	return status, nil
}

// cancel gives an instruction up that is not final.
func (s sheet) cancel(id int) (int, error) {
	r := s.record(id)
	switch r.Status {
	case api.None:
		return api.None, api.ErrLost
	case api.Pending:
		r.Status = api.Cancelled
		return api.Cancelled, nil
	}
	return api.None, api.ErrFinal
}

// status is an instruction's.
func (s sheet) status(id int) (int, error) {
	r := s.record(id)
	if r.Status == api.None {
		return api.None, api.ErrLost
	}
	return r.Status, nil
}

// settle moves the legs of a pending instruction, if they are covered.
func (s sheet) settle(id int) error {
	r := s.record(id)
	if err := s.move(r.Legs); err != nil {
		return err
	}
	r.Status = api.Settled
	return nil
}
