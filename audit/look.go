package audit

import (
	"slices"

	"custody/api"
	"custody/guard"
	"custody/ledger"
)

// look is what the points of Check look at: each asks what the ones ahead of it have found right no more.
type look struct {
	config api.Config
	api.Result
	order []int
	books *ledger.Ledger // does all that stands in the order
}

// behindCalls is an error of the list of settlements: their places are behind those of the calls.
func (l *look) behindCalls(err error) error {
	return placed(err, func(at int) int { return len(l.Calls) + at })
}

// either is the first error, of the calls and then of the settlements.
func (l *look) either(no api.Errno, call func(api.Call) bool, settle func(api.Settle) bool) error {
	if err := first(l.Calls, no, call); err != nil {
		return err
	}
	return l.behindCalls(first(l.Settles, no, settle))
}

// signs: no number is below those that are given.
func (l *look) signs() error {
	return l.either(api.ErrArg, func(x api.Call) bool { return x.Number < 0 }, func(x api.Settle) bool { return x.Number < 1 })
}

// numbers are those of numbered calls and settlements, by their places; 0: it has none of its own.
func (l *look) numbers() []int {
	var numbers []int
	for _, x := range l.Calls {
		n := 0
		if isNumbered(x) {
			n = x.Number
		}
		numbers = append(numbers, n)
	}
	for _, x := range l.Settles {
		numbers = append(numbers, x.Number)
	}
	return numbers
}

// twins: no number is given twice.
func (l *look) twins() error {
	given := map[int]int{}
	return first(l.numbers(), api.ErrTwice, func(n int) bool {
		given[n]++
		return n != 0 && given[n] > 1
	})
}

// gaps: as no number is given twice, the greatest says whether one is missing.
func (l *look) gaps() error {
	greatest, given := 0, 0
	for _, n := range l.numbers() {
		if n != 0 {
			given++
		}
		greatest = max(greatest, n)
	}
	beyond := func(x api.Call) bool { return isRead(x) && x.Number > given }
	if greatest != given || slices.ContainsFunc(l.Calls, beyond) {
		return api.ErrLost
	}
	return nil
}

// sessions: each session does one call behind the other.
func (l *look) sessions() error {
	for place := range l.Calls {
		if no := l.misplaced(place); no != api.OK {
			return api.Fault{No: no, At: place}
		}
	}
	return l.behindCalls(first(l.Settles, api.ErrLoop, func(x api.Settle) bool { return x.At < 0 }))
}

// ahead is the call ahead of one in its session; nil, if it is the first there.
func (l *look) ahead(place int) *api.Call {
	if place == 0 || l.Calls[place-1].Session != l.Calls[place].Session {
		return nil
	}
	return &l.Calls[place-1]
}

// misplaced is what is wrong with a call, if all that stand ahead of it are right.
func (l *look) misplaced(place int) api.Errno {
	x, ahead, index := l.Calls[place], l.ahead(place), 0
	if ahead != nil {
		index = ahead.Index + 1
	}
	switch {
	case place > 0 && x.Session < l.Calls[place-1].Session, x.Index != index:
		return api.ErrForm
	case untimely(x), ahead != nil && !wasOver(ahead.Returned, x.Invoked):
		return api.ErrLoop
	}
	return api.OK
}

// span is when what stands at a place was invoked, and when it was over; 0: at no time.
func (l *look) span(place int) (invoked, over int) {
	if place < len(l.Calls) {
		return l.Calls[place].Invoked, l.Calls[place].Returned
	}
	return 0, l.Settles[place-len(l.Calls)].At
}

// times: none stands in the order ahead of one that was over when it was invoked. From the last on, it is enough to know which of those behind was over first.
func (l *look) times() error {
	var err error
	soonest := 0
	for _, place := range slices.Backward(l.order) {
		invoked, over := l.span(place)
		if wasOver(soonest, invoked) {
			err = api.Fault{No: api.ErrLoop, At: place}
		}
		if over != 0 && (soonest == 0 || over < soonest) {
			soonest = over
		}
	}
	return err
}

// refusals: what stands in no order was refused by itself, or hasn't returned.
func (l *look) refusals() error { return first(l.Calls, api.ErrForm, l.stray) }

// stray tells whether a call should stand in the order, or be told otherwise.
func (l *look) stray(x api.Call) bool {
	switch {
	case isNumbered(x), isRead(x), isRefusedRow(x):
		return false
	case x.Number != 0:
		return true
	case !hasReturned(x):
		return !sameAnswer(x.Answer, api.Answer{})
	}
	err := guard.Check(l.config, x.Op)
	return err == nil || !sameAnswer(x.Answer, api.Answer{Err: number(err)})
}

// replay: the ledger does all that stands in the order, and answers so.
func (l *look) replay() error {
	return placed(first(l.order, api.ErrForm, l.undone), func(at int) int { return l.order[at] })
}

// undone does what stands at a place, and tells whether the ledger did it otherwise. A call that hasn't returned is done too, but nobody was told its answer.
func (l *look) undone(place int) bool {
	if place >= len(l.Calls) {
		return !l.books.Settle(l.Settles[place-len(l.Calls)].Id)
	}
	x := l.Calls[place]
	a := answered(l.books, x)
	if !hasReturned(x) {
		a = api.Answer{}
	}
	return !sameAnswer(x.Answer, a)
}

// end: what the result says of the run's end; the ledger has done all.
func (l *look) end() error {
	if !l.Quiet {
		return l.state(api.State{})
	}
	if err := l.either(api.ErrShort, func(x api.Call) bool { return !hasReturned(x) }, func(x api.Settle) bool { return x.At == 0 }); err != nil {
		return err
	}
	switch {
	case l.Stuck != 0:
		return api.ErrLoop
	case l.config.Workers > 0 && len(l.books.Ready()) > 0:
		return api.ErrCover
	}
	return l.state(l.books.State())
}

// state: the result's is this one.
func (l *look) state(want api.State) error {
	if !sameState(l.State, want) {
		return api.ErrSum
	}
	return nil
}
