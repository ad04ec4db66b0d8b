package links_test

import (
	"errors"
	"slices"
	"testing"

	"custody/api"
	"custody/links"
	"custody/proof"
)

func ints(l ...int) []int { return l }

// pairs are pairs, told by their numbers.
func pairs(l ...int) [][2]int {
	var out [][2]int
	for i := 0; i < len(l); i += 2 {
		out = append(out, [2]int{l[i], l[i+1]})
	}
	return out
}

// upTo are the numbers from 0 to n - 1.
func upTo(n int) []int {
	var l []int
	for x := range n {
		l = append(l, x)
	}
	return l
}

// lostAt is the error of a place, ErrLost.
func lostAt(at int) error { return api.Fault{No: api.ErrLost, At: at} }

// number is that of an error.
func number(err error) api.Errno {
	no := api.OK
	errors.As(err, &no)
	return no
}

// sameError tells whether an error has the number of the one that is wanted, and its place or none.
func sameError(got, want error) bool {
	var place api.Fault
	if errors.As(want, &place) {
		return proof.TellsAt(got, place.No, place.Line, place.At)
	}
	return proof.Tells(got, number(want))
}

// grouped holds Groups against what is wanted of it.
func grouped(t *testing.T, n int, with [][2]int, want []int, fails error) {
	t.Helper()
	if got, err := links.Groups(n, with); !slices.Equal(got, want) || !sameError(err, fails) {
		t.Fatalf("Groups(%d, %v) is %v, %#v, not %v, %#v", n, with, got, err, want, fails)
	}
}

// ordered holds Order against what is wanted of it.
func ordered(t *testing.T, n int, before [][2]int, priority []int, want []int, fails error) {
	t.Helper()
	if got, err := links.Order(n, before, priority); !slices.Equal(got, want) || !sameError(err, fails) {
		t.Fatalf("Order(%d, %v, %v) is %v, %#v, not %v, %#v", n, before, priority, got, err, want, fails)
	}
}

// rings holds Ring against the ring that is wanted; none: there is no ring.
func rings(t *testing.T, n int, before [][2]int, want ...int) {
	t.Helper()
	if got, ok := links.Ring(n, before); !slices.Equal(got, want) || ok != (len(want) > 0) {
		t.Fatalf("Ring(%d, %v) is %v, %v, not %v", n, before, got, ok, want)
	}
}

// resolved holds Resolve against what is wanted of it.
func resolved(t *testing.T, l []api.Notice, want [][]int, fails error) {
	t.Helper()
	if got, err := links.Resolve(l); !proof.SameLists(got, want) || !sameError(err, fails) {
		t.Fatalf("Resolve(%+v) is %v, %#v, not %v, %#v", l, got, err, want, fails)
	}
}

// pooled holds Pool against what is wanted of it.
func pooled(t *testing.T, l [][]api.Leg, want []api.Leg, fails error) {
	t.Helper()
	if got, err := links.Pool(l); !slices.Equal(got, want) || !sameError(err, fails) {
		t.Fatalf("Pool(%v) is %v, %#v, not %v, %#v", l, got, err, want, fails)
	}
}

// notice is one of these links; nothing else of it is looked at.
func notice(ref string, priority int, l ...api.Link) api.Notice {
	return api.Notice{Ref: ref, Priority: priority, Links: l}
}

func with(ref string) api.Link { return api.Link{Kind: api.With, Ref: ref} }

func before(ref string) api.Link { return api.Link{Kind: api.Before, Ref: ref} }

func after(ref string) api.Link { return api.Link{Kind: api.After, Ref: ref} }

// kinds are the three links to a notice.
func kinds(ref string) []api.Link { return []api.Link{with(ref), before(ref), after(ref)} }

// moves are legs from 0 to 1 of asset 2 with the name 3.
func moves(quantities ...int64) []api.Leg {
	var l []api.Leg
	for _, qty := range quantities {
		l = append(l, proof.Leg(0, 1, 2, qty, 3))
	}
	return l
}
