package audit

import (
	"errors"
	"slices"

	"custody/api"
)

// first is the fault of this number of the first thing in a list that is wrong: its place in that list.
func first[T any](l []T, no api.Errno, wrong func(T) bool) error {
	if at := slices.IndexFunc(l, wrong); at >= 0 {
		return api.Fault{No: no, At: at}
	}
	return nil
}

// placed is an error whose place in a list is told as the one that it stands for.
func placed(err error, place func(at int) int) error {
	var f api.Fault
	if errors.As(err, &f) {
		return api.Fault{No: f.No, At: place(f.At)}
	}
	return err
}

// number is that of an error.
func number(err error) api.Errno {
	var no api.Errno
	errors.As(err, &no)
	return no
}
