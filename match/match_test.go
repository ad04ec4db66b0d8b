package match_test

import (
	"errors"
	"fmt"
	"slices"
	"testing"

	"custody/api"
	"custody/match"
	"custody/proof"
)

// bics are the chapter's parties.
var bics = []string{"DEUTDEFF", "BNPAFRPP"}

const tolerance = 200

// d is the chapter's side of the deliverer, under a reference.
func d(ref string, turns ...func(s *api.Side)) api.Side {
	return turned(api.Side{Notice: api.Notice{
		Ref: ref, Pay: true, Trade: 738887, Settle: 738889, Code: api.Isin([]byte("US0378331005")), Qty: 10,
		Account: "ACC1", Agent: "BNPAFRPPXXX", Other: "ACC2", Amount: 5000, Currency: "EUR",
	}}, turns...)
}

// r is the receiver's.
func r(ref string, turns ...func(s *api.Side)) api.Side {
	s := d(ref, amount(5100))
	n := &s.Notice
	s.Party, n.Receive, n.Account, n.Agent, n.Other = 1, true, "ACC2", "DEUTDEFF", "ACC1"
	return turned(s, turns...)
}

// turned is a side with something in it changed.
func turned(s api.Side, turns ...func(s *api.Side)) api.Side {
	s.Notice.Links = slices.Clone(s.Notice.Links)
	for _, turn := range turns {
		turn(&s)
	}
	return s
}

func amount(n int64) func(s *api.Side) { return func(s *api.Side) { s.Notice.Amount = n } }

func agent(bic string) func(s *api.Side) { return func(s *api.Side) { s.Notice.Agent = bic } }

func from(party int) func(s *api.Side) { return func(s *api.Side) { s.Party = party } }

func qty(n int64) func(s *api.Side) { return func(s *api.Side) { s.Notice.Qty = n } }

// free makes a side free of payment.
func free(s *api.Side) { s.Notice.Pay, s.Notice.Amount, s.Notice.Currency = false, 0, "" }

// cancellation makes a side one that cancels another.
func cancellation(s *api.Side) { s.Notice.Cancel, s.Notice.Prev = true, "Z9" }

func linked(s *api.Side) {
	s.Notice.Links = []api.Link{{Kind: api.With, Ref: "L1"}, {Kind: api.After, Ref: "L2"}}
}

func sameSide(a, b api.Side) bool {
	return a.Party == b.Party && proof.SameNotice(a.Notice, b.Notice)
}

// booked is what is asked of a book, and of the second reckoning.
type booked interface {
	Add(s api.Side) (int, int, error)
	Cancel(party int, ref string) (bool, error)
	Open() []int
	Pairs() []api.Pair
	Side(n int) (api.Side, bool)
	Alleged(party int) []int
}

// number is that of an error; -1: it isn't just one number, or tells a place.
func number(err error) int {
	var no api.Errno
	errors.As(err, &no)
	if !proof.Tells(err, no) {
		return -1
	}
	return int(no)
}

// call is one call that may change a book, and what it answers, as a text.
type call struct {
	what string
	ask  func(b booked) string
}

func add(s api.Side) call {
	return call{fmt.Sprintf("Add(%+v)", s), func(b booked) string {
		n, pair, err := b.Add(s)
		return fmt.Sprint(n, pair, number(err))
	}}
}

func cancel(party int, ref string) call {
	return call{fmt.Sprintf("Cancel(%d, %q)", party, ref), func(b booked) string {
		ok, err := b.Cancel(party, ref)
		return fmt.Sprint(ok, number(err))
	}}
}

// told is a row of calls as a text.
func told(calls []call) string {
	text := ""
	for _, c := range calls {
		text += c.what + ";\n"
	}
	return text
}

// seen is all that is seen of a book with so many parties and sides, and one more at either end.
func seen(b booked, parties, sides int) string {
	text := fmt.Sprintf("open %v, pairs %v", list(b.Open()), list(b.Pairs()))
	for n := -1; n <= parties; n++ {
		text += fmt.Sprintf("\nalleged to %d: %v", n, list(b.Alleged(n)))
	}
	for n := -1; n <= sides; n++ {
		s, ok := b.Side(n)
		s.Notice.Links = list(s.Notice.Links)
		text += fmt.Sprintf("\nside %d: %+v, %v", n, s, ok)
	}
	return text
}

// list is a list of which none is told as an empty one.
func list[T any](l []T) []T { return append([]T{}, l...) }

// tested is a book of which each answer is held against one that is wanted.
type tested struct {
	t *testing.T
	b *match.Book
}

func newTested(t *testing.T) tested { return tested{t, match.New(bics, tolerance)} }

// add puts a side in.
func (x tested) add(n, pair int, s api.Side) {
	x.t.Helper()
	if a, b, err := x.b.Add(s); a != n || b != pair || err != nil {
		x.t.Errorf("Add(%+v) is %d, %d, %v, not %d, %d", s, a, b, err, n, pair)
	}
}

// refuses tells whether a side is refused by this number, and nothing is changed by that.
func (x tested) refuses(no api.Errno, s api.Side) {
	x.t.Helper()
	was := x.seen()
	if a, b, err := x.b.Add(s); a != 0 || b != 0 || !proof.Tells(err, no) {
		x.t.Errorf("Add(%+v) is %d, %d, %v, not %v", s, a, b, err, no)
	}
	x.stays(was)
}

// cancel asks for the cancellation of a side.
func (x tested) cancel(want bool, party int, ref string) {
	x.t.Helper()
	if ok, err := x.b.Cancel(party, ref); ok != want || err != nil {
		x.t.Errorf("Cancel(%d, %q) is %v, %v", party, ref, ok, err)
	}
}

// keeps tells whether a cancellation is refused by this number, and nothing is changed by that.
func (x tested) keeps(no api.Errno, party int, ref string) {
	x.t.Helper()
	was := x.seen()
	if ok, err := x.b.Cancel(party, ref); ok || !proof.Tells(err, no) {
		x.t.Errorf("Cancel(%d, %q) is %v, %v, not %v", party, ref, ok, err, no)
	}
	x.stays(was)
}

func (x tested) seen() string { return seen(x.b, len(bics), 20) }

func (x tested) stays(was string) {
	x.t.Helper()
	if is := x.seen(); is != was {
		x.t.Errorf("it was\n%s\nand is\n%s", was, is)
	}
}

func (x tested) open(want ...int) {
	x.t.Helper()
	if got := x.b.Open(); !slices.Equal(got, want) {
		x.t.Errorf("Open is %v, not %v", got, want)
	}
}

func (x tested) alleged(party int, want ...int) {
	x.t.Helper()
	if got := x.b.Alleged(party); !slices.Equal(got, want) {
		x.t.Errorf("Alleged(%d) is %v, not %v", party, got, want)
	}
}

// pair is one of these numbers of sides.
func pair(deliver, receive int, amount int64) api.Pair {
	return api.Pair{Deliver: deliver, Receive: receive, Amount: amount}
}

func (x tested) pairs(want ...api.Pair) {
	x.t.Helper()
	if got := x.b.Pairs(); !slices.Equal(got, want) {
		x.t.Errorf("Pairs are %v, not %v", got, want)
	}
}

func (x tested) side(n int, want api.Side) {
	x.t.Helper()
	if got, ok := x.b.Side(n); !ok || !sameSide(got, want) {
		x.t.Errorf("Side(%d) is %+v, %v, not %+v", n, got, ok, want)
	}
}

func (x tested) noSide(numbers ...int) {
	x.t.Helper()
	for _, n := range numbers {
		if got, ok := x.b.Side(n); ok || !sameSide(got, api.Side{}) {
			x.t.Errorf("Side(%d) is %+v, %v", n, got, ok)
		}
	}
}
