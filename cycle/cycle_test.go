package cycle_test

import (
	"fmt"
	"math"
	"slices"
	"testing"

	"custody/api"
	"custody/cycle"
	"custody/proof"
)

const (
	most  = api.MaxAmount
	least = math.MinInt64
)

var (
	pos  = proof.Position
	held = proof.Balance
)

func ints(l ...int) []int { return l }

func leg(from, to, asset int, qty int64) api.Leg { return proof.Leg(from, to, asset, qty, 0) }

func wish(id int, legs ...api.Leg) api.Wish { return api.Wish{Id: id, Legs: legs} }

// ranked is a wish with a priority and a time when it came.
func ranked(id, priority, came int, legs ...api.Leg) api.Wish {
	return api.Wish{Id: id, Legs: legs, Priority: priority, Came: came}
}

func wishes(l ...api.Wish) []api.Wish { return l }

func balances(l ...api.Balance) []api.Balance { return l }

// shown is what was asked, as far as it can be read.
func shown(l ...any) string {
	text := fmt.Sprintf("%+v", l)
	return text[:min(len(text), 2000)]
}

// nets holds Net against what is wanted of it.
func nets(t *testing.T, l []api.Wish, want []api.Balance, no api.Errno) {
	t.Helper()
	if got, err := cycle.Net(l); !proof.SameBalances(got, want) || !proof.Tells(err, no) {
		t.Fatalf("Net of %s is %+v, %#v, not %+v, %v", shown(l), got, err, want, no)
	}
}

// feasible holds Feasible against what is wanted of it.
func feasible(t *testing.T, b []api.Balance, l []api.Wish, want bool, no api.Errno) {
	t.Helper()
	if got, err := cycle.Feasible(b, l); got != want || !proof.Tells(err, no) {
		t.Fatalf("Feasible of %s is %v, %#v, not %v, %v", shown(b, l), got, err, want, no)
	}
}

// settles holds Settle against what is wanted of it.
func settles(t *testing.T, b []api.Balance, l []api.Wish, want []api.Balance, no api.Errno) {
	t.Helper()
	if got, err := cycle.Settle(b, l); !proof.SameBalances(got, want) || !proof.Tells(err, no) {
		t.Fatalf("Settle of %s is %+v, %#v, not %+v, %v", shown(b, l), got, err, want, no)
	}
}

// chooses holds Choose against what is wanted of it.
func chooses(t *testing.T, b []api.Balance, l []api.Wish, want []int, no api.Errno) {
	t.Helper()
	if got, err := cycle.Choose(b, l); !slices.Equal(got, want) || !proof.Tells(err, no) {
		t.Fatalf("Choose of %s is %v, %#v, not %v, %v", shown(b, l), got, err, want, no)
	}
}

// rings holds Rings against what is wanted of it.
func rings(t *testing.T, b []api.Balance, l []api.Wish, want [][]int, no api.Errno) {
	t.Helper()
	if got, err := cycle.Rings(b, l); !proof.SameLists(got, want) || !proof.Tells(err, no) {
		t.Fatalf("Rings of %s is %v, %#v, not %v, %v", shown(b, l), got, err, want, no)
	}
}

// refuses tells that these wishes over these balances are refused, by the four calls that ask for both.
func refuses(t *testing.T, b []api.Balance, l []api.Wish, no api.Errno) {
	t.Helper()
	feasible(t, b, l, false, no)
	settles(t, b, l, nil, no)
	chooses(t, b, l, nil, no)
	rings(t, b, l, nil, no)
}

// agrees holds all calls against the second reckoning.
func agrees(t *testing.T, b []api.Balance, l []api.Wish) {
	t.Helper()
	net, no := netAgain(l)
	nets(t, l, net, no)
	if no := wrongAgain(b, l); no != api.OK {
		refuses(t, b, l, no)
		return
	}
	feasible(t, b, l, togetherAgain(b, l), api.OK)
	behind, no := settleAgain(b, l)
	settles(t, b, l, behind, no)
	chooses(t, b, l, chooseAgain(b, l), api.OK)
	rings(t, b, l, ringsAgain(b, l), api.OK)
}

// chosen are the wishes that Choose chooses, and the others.
func chosen(t *testing.T, b []api.Balance, l []api.Wish) (in, out []api.Wish) {
	t.Helper()
	ids, err := cycle.Choose(b, l)
	if err != nil || !slices.IsSorted(ids) {
		t.Fatalf("Choose of %s is %v, %v", shown(b, l), ids, err)
	}
	for _, w := range l {
		if slices.Contains(ids, w.Id) {
			in = append(in, w)
		} else {
			out = append(out, w)
		}
	}
	if len(in) != len(ids) {
		t.Fatalf("Choose of %s is %v", shown(b, l), ids)
	}
	return in, out
}

// together asks Feasible of wishes in which nothing is wrong.
func together(t *testing.T, b []api.Balance, l []api.Wish) bool {
	t.Helper()
	ok, err := cycle.Feasible(b, l)
	if err != nil {
		t.Fatalf("Feasible of %s is %v", shown(b, l), err)
	}
	return ok
}

// behind asks Settle of wishes that settle together.
func behind(t *testing.T, b []api.Balance, l []api.Wish) []api.Balance {
	t.Helper()
	out, err := cycle.Settle(b, l)
	if err != nil {
		t.Fatalf("Settle of %s is %v", shown(b, l), err)
	}
	return out
}
