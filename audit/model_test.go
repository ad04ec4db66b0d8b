package audit_test

import (
	"slices"

	"custody/api"
	"custody/proof"
)

// A second reckoning of the chapter's words: orders are counted, not sorted; each is held against each; a book stands for the ledger; orders are tried to their end, and the same state again and again.

// item is what stands in the order.
type item struct {
	place, number  int
	read           bool
	returned       int
	invoked, ended int
}

// items are what stands in the order of a result, by places.
func items(r api.Result) []item {
	var l []item
	for i, x := range r.Calls {
		read := x.Op.Code == 8 && x.Returned != 0 && x.Answer.Err == 0
		if read || x.Op.Code != 8 && x.Number != 0 {
			l = append(l, item{i, x.Number, read, x.Returned, x.Invoked, x.Returned})
		}
	}
	for i, x := range r.Settles {
		l = append(l, item{place: i + len(r.Calls), number: x.Number, ended: x.At})
	}
	return l
}

// before tells whether one stands ahead of another in the order.
func (a item) before(b item) bool {
	switch {
	case !a.read && b.read:
		return a.number <= b.number
	case a.read && !b.read, a.number != b.number:
		return a.number < b.number
	case a.read && a.returned != b.returned:
		return a.returned < b.returned
	}
	return a.place < b.place
}

// ordered are the items in their order: each stands behind as many as are before it.
func ordered(r api.Result) []item {
	l := items(r)
	out := make([]item, len(l))
	for _, x := range l {
		n := 0
		for _, y := range l {
			if y.before(x) {
				n++
			}
		}
		out[n] = x
	}
	return out
}

// zeroOp tells whether there is no operation.
func zeroOp(o api.Op) bool { return proof.SameOp(o, api.Op{}) }

// refusedRow tells whether a call is a row that was refused.
func refusedRow(x api.Call) bool {
	return zeroOp(x.Op) && x.Returned != 0 && (proof.SameAnswer(x.Answer, no(api.ErrShort)) || proof.SameAnswer(x.Answer, no(api.ErrLong)))
}

// fits tells whether a configuration is one.
func fits(c api.Config) bool {
	return !proof.Outside(c.Accounts, 1, 65536) && !proof.Outside(c.Assets, 1, 65536) && !proof.Outside(c.Queue, 0, 256) && !proof.Outside(c.Shards, 1, 64) && !proof.Outside(c.Workers, 0, 8)
}

// judged is Check once more: the error's number, and its place.
func judged(c api.Config, r api.Result) (api.Errno, int) {
	if !fits(c) {
		return api.ErrArg, nowhere
	}
	for _, point := range []func() (api.Errno, int){
		func() (api.Errno, int) { return wrongNumbers(r) },
		func() (api.Errno, int) { return wrongPlaces(r) },
		func() (api.Errno, int) { return wrongTimes(r) },
		func() (api.Errno, int) { return strays(c, r) },
		func() (api.Errno, int) { return wrongDeeds(c, r) },
	} {
		if no, at := point(); no != api.OK {
			return no, at
		}
	}
	return api.OK, nowhere
}

// wrongNumbers are the points 2 to 4.
func wrongNumbers(r api.Result) (api.Errno, int) {
	for i, x := range r.Calls {
		if x.Number < 0 {
			return api.ErrArg, i
		}
	}
	for i, x := range r.Settles {
		if x.Number <= 0 {
			return api.ErrArg, len(r.Calls) + i
		}
	}
	var numbers []int
	for _, x := range items(r) {
		if x.read {
			continue
		}
		if slices.Contains(numbers, x.number) {
			return api.ErrTwice, x.place
		}
		numbers = append(numbers, x.number)
	}
	for n := range numbers {
		if !slices.Contains(numbers, n+1) {
			return api.ErrLost, nowhere
		}
	}
	for _, x := range items(r) {
		if x.read && x.number > len(numbers) {
			return api.ErrLost, nowhere
		}
	}
	return api.OK, nowhere
}

// wrongPlaces is the point 5.
func wrongPlaces(r api.Result) (api.Errno, int) {
	for i, x := range r.Calls {
		index := 0
		var ahead []api.Call // of its session
		for _, y := range r.Calls[:i] {
			if y.Session > x.Session {
				return api.ErrForm, i
			}
			if y.Session == x.Session {
				index++
				ahead = append(ahead, y)
			}
		}
		if x.Index != index {
			return api.ErrForm, i
		}
		if x.Invoked <= 0 || x.Returned != 0 && x.Returned <= x.Invoked {
			return api.ErrLoop, i
		}
		if index > 0 && (ahead[index-1].Returned == 0 || ahead[index-1].Returned >= x.Invoked) {
			return api.ErrLoop, i
		}
	}
	for i, x := range r.Settles {
		if x.At < 0 {
			return api.ErrLoop, len(r.Calls) + i
		}
	}
	return api.OK, nowhere
}

// wrongTimes is the point 6: each is held against each that stands behind it.
func wrongTimes(r api.Result) (api.Errno, int) {
	l := ordered(r)
	for i, x := range l {
		for _, y := range l[i+1:] {
			if x.invoked != 0 && y.ended != 0 && y.ended < x.invoked {
				return api.ErrLoop, x.place
			}
		}
	}
	return api.OK, nowhere
}

// strays is the point 7.
func strays(c api.Config, r api.Result) (api.Errno, int) {
	for i, x := range r.Calls {
		if refusedRow(x) || slices.ContainsFunc(items(r), func(y item) bool { return y.place == i }) {
			continue
		}
		want := api.Answer{}
		if x.Returned != 0 {
			want.Err = proof.Judge(c, x.Op)
			if want.Err == api.OK {
				return api.ErrForm, i
			}
		}
		if x.Number != 0 || !proof.SameAnswer(x.Answer, want) {
			return api.ErrForm, i
		}
	}
	return api.OK, nowhere
}

// does is what a book answers a call.
func does(c api.Config, b *proof.Book, x api.Call) api.Answer {
	if refusedRow(x) {
		return x.Answer
	}
	return b.Do(c, x.Op, len(b.Queue) < c.Queue)
}

// wrongDeeds are the points 8 to 10.
func wrongDeeds(c api.Config, r api.Result) (api.Errno, int) {
	b := proof.NewBook()
	for _, x := range ordered(r) {
		if x.place >= len(r.Calls) {
			if !b.Settle(r.Settles[x.place-len(r.Calls)].Id) {
				return api.ErrForm, x.place
			}
			continue
		}
		y := r.Calls[x.place]
		a := does(c, b, y)
		if y.Returned != 0 && !proof.SameAnswer(a, y.Answer) || y.Returned == 0 && !proof.SameAnswer(y.Answer, api.Answer{}) {
			return api.ErrForm, x.place
		}
	}
	if !r.Quiet {
		if proof.SameState(r.State, api.State{}) {
			return api.OK, nowhere
		}
		return api.ErrSum, nowhere
	}
	return wrongEnd(c, r, b)
}

// wrongEnd is the point 9.
func wrongEnd(c api.Config, r api.Result, b *proof.Book) (api.Errno, int) {
	for i, x := range r.Calls {
		if x.Returned == 0 {
			return api.ErrShort, i
		}
	}
	for i, x := range r.Settles {
		if x.At == 0 {
			return api.ErrShort, len(r.Calls) + i
		}
	}
	switch {
	case r.Stuck != 0:
		return api.ErrLoop, nowhere
	case c.Workers > 0 && len(b.Ready()) > 0:
		return api.ErrCover, nowhere
	case !proof.SameState(r.State, b.State()):
		return api.ErrSum, nowhere
	}
	return api.OK, nowhere
}

// inTime tells whether in a row of calls none stands ahead of one that was over when it was invoked.
func inTime(row []api.Call) bool {
	for i, x := range row {
		for _, y := range row[i+1:] {
			if y.Returned != 0 && y.Returned < x.Invoked {
				return false
			}
		}
	}
	return true
}

// sought is Search once more, of calls and a configuration that it takes: all rows of some of the calls, with settlements between.
func sought(c api.Config, calls []api.Call) bool {
	return tried(c, proof.NewBook(), nil, calls)
}

// tried tells whether a row that is done so far leads to an end in which all that have returned are in it.
func tried(c api.Config, b *proof.Book, row, left []api.Call) bool {
	if !inTime(row) {
		return false
	}
	if !slices.ContainsFunc(left, func(x api.Call) bool { return x.Returned != 0 }) {
		return true
	}
	for i, x := range left {
		behind := b.Copy()
		if a := does(c, behind, x); x.Returned != 0 && !proof.SameAnswer(a, x.Answer) {
			continue
		}
		if tried(c, behind, append(slices.Clone(row), x), slices.Concat(left[:i], left[i+1:])) {
			return true
		}
	}
	for _, id := range b.Ready() {
		behind := b.Copy()
		behind.Settle(id)
		if tried(c, behind, row, left) {
			return true
		}
	}
	return false
}
