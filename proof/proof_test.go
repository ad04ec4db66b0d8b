package proof_test

import (
	"errors"
	"testing"

	"custody/api"
	"custody/proof"
)

func TestTells(t *testing.T) {
	place := api.Fault{No: api.ErrForm, Line: 2, At: 3}
	for _, x := range []struct {
		err  error
		no   api.Errno
		want bool
	}{
		{nil, api.OK, true},
		{nil, api.ErrForm, false},
		{api.ErrForm, api.OK, false},
		{api.ErrForm, api.ErrForm, true},
		{api.ErrForm, api.ErrText, false},
		{errors.New("form"), api.ErrForm, false},
		{errors.Join(api.ErrForm), api.ErrForm, true},
		{errors.Join(api.ErrForm, api.ErrText), api.ErrForm, false},
		{place, api.ErrForm, false},
		{errors.Join(api.ErrForm, place), api.ErrForm, false},
	} {
		if got := proof.Tells(x.err, x.no); got != x.want {
			t.Errorf("Tells(%v, %v) is %v", x.err, x.no, got)
		}
	}
}

func TestTellsAt(t *testing.T) {
	place := api.Fault{No: api.ErrForm, Line: 2, At: 3}
	for _, x := range []struct {
		err      error
		no       api.Errno
		line, at int
		want     bool
	}{
		{place, api.ErrForm, 2, 3, true},
		{errors.Join(place), api.ErrForm, 2, 3, true},
		{place, api.ErrText, 2, 3, false},
		{place, api.ErrForm, 1, 3, false},
		{place, api.ErrForm, 2, 2, false},
		{errors.Join(place, api.ErrText), api.ErrForm, 2, 3, false},
		{api.ErrForm, api.ErrForm, 0, 0, false},
		{nil, api.OK, 0, 0, false},
		{nil, api.ErrForm, 0, 0, false},
	} {
		if got := proof.TellsAt(x.err, x.no, x.line, x.at); got != x.want {
			t.Errorf("TellsAt(%v, %v, %d, %d) is %v", x.err, x.no, x.line, x.at, got)
		}
	}
}

func TestDice(t *testing.T) {
	a, b := proof.Dice(1), proof.Dice(1)
	seen := make([]bool, 10)
	for range 1000 {
		if a.Next() != b.Next() {
			t.Fatal("two dice of one number differ")
		}
		seen[a.Below(10)] = true
		b.Next()
	}
	for n, ok := range seen {
		if !ok {
			t.Errorf("%d was never thrown", n)
		}
	}
	if s := a.Text(50, "xy"); len(s) != 50 || s == a.Text(50, "xy") {
		t.Errorf("a text is %q", s)
	}
	if got := proof.Of(&a, 7, 8); got != 7 && got != 8 {
		t.Errorf("of 7 and 8 it is %d", got)
	}
}
