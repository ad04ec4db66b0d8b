package balance

import (
	"errors"
	"strconv"

	"custody/api"
)

// atAvail is the place of what is free; the places of the marks are from 0 on.
const atAvail = -1

// refusal is an error with what was refused; it wraps one that is or wraps a number, and may tell a place.
type refusal struct {
	what string
	err  error
}

// Error is what was refused, where, if a place is told, and why.
func (r refusal) Error() string {
	return r.what + ": " + where(r.err) + r.err.Error()
}

// Unwrap is why.
func (r refusal) Unwrap() error { return r.err }

// where is the place that an error tells, ahead of its text.
func where(err error) string {
	var fault api.Fault
	switch {
	case !errors.As(err, &fault):
		return ""
	case fault.At == atAvail:
		return "what is free: "
	}
	return "the mark at " + strconv.Itoa(fault.At) + ": "
}

// refuse is the answer of a call that does nothing, since it may not.
func refuse(what string, err error) (api.Position, error) {
	return api.Position{}, refusal{what, err}
}

// begin is what all calls that turn a position ask first; beside no error it is the position's total.
func begin(p api.Position, qty int64) (int64, error) {
	total, err := weigh(p)
	if err != nil {
		return 0, err
	}
	if qty < 1 {
		return 0, api.ErrAmount
	}
	return total, nil
}
