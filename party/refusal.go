package party

import (
	"errors"

	"custody/api"
)

// refusal is an error with what was refused; it wraps one that is or wraps a number.
type refusal struct {
	what string
	err  error
}

// Error is what was refused, and why.
func (r refusal) Error() string { return r.what + ": " + r.err.Error() }

// Unwrap is why.
func (r refusal) Unwrap() error { return r.err }

// refuse is the refusal of something by a number.
func refuse(what string, no api.Errno) error { return refusal{what, no} }

// refusedBelow is the refusal of something by another layer: its number alone is told, whatever place it may tell.
func refusedBelow(what string, err error) error {
	var no api.Errno
	errors.As(err, &no)
	return refuse(what, no)
}

// lostAs is an error as it is; but where something isn't there, the refusal of that by a number of its own.
func lostAs(what string, no api.Errno, err error) error {
	if errors.Is(err, api.ErrLost) {
		return refuse(what, no)
	}
	return err
}
