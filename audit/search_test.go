package audit_test

import (
	"math"
	"slices"
	"testing"

	"custody/api"
	"custody/audit"
	"custody/proof"
)

// room is a configuration with room for all that Search can be asked of.
func room() api.Config { return api.Config{Accounts: 3, Assets: 2, Queue: 8, Shards: 1} }

// put, take, wait, ask, see are calls without a number.

func put(qty int64, invoked, returned int) api.Call {
	return call(deposit(0, 0, qty), invoked, returned, 0, api.Answer{})
}

func take(qty int64, invoked, returned int, err api.Errno) api.Call {
	return call(withdraw(0, 0, qty), invoked, returned, 0, no(err))
}

// wait submits an instruction by which account 0 delivers so much to account 1.
func wait(id int, qty int64, invoked, returned, status int) api.Call {
	return call(submit(id, leg(0, 1, 0, qty, 0)), invoked, returned, 0, said(status))
}

func ask(id, invoked, returned, s int) api.Call {
	return call(status(id), invoked, returned, 0, said(s))
}

// see is a snapshot of what account 0 and account 1 have.
func see(invoked, returned int, zero, one int64) api.Call {
	return call(snapshot(0, 0, 1, 0), invoked, returned, 0, shows(pos(zero), pos(one)))
}

// open is a call that hasn't returned.
func open(x api.Call) api.Call {
	x.Returned, x.Answer = 0, api.Answer{}
	return x
}

// P21.3
func TestSearch(t *testing.T) {
	for _, x := range []struct {
		name  string
		calls []api.Call
		want  bool
	}{
		{"none", nil, true},
		{"one", calls(put(5, 1, 2)), true},
		{"one that is answered otherwise", calls(take(5, 1, 2, api.OK)), false},
		{"one that is refused", calls(take(5, 1, 2, api.ErrCover)), true},
		{"beside one another, in either order", calls(put(5, 1, 4), take(5, 2, 3, api.OK)), true},
		{"and refused", calls(put(5, 1, 4), take(5, 2, 3, api.ErrCover)), true},
		{"behind it", calls(put(5, 1, 2), take(5, 3, 4, api.ErrCover)), false},
		{"ahead of it", calls(put(5, 3, 4), take(5, 1, 2, api.OK)), false},
		{"over at that time", calls(put(5, 3, 4), take(5, 1, 3, api.OK)), true},
		{"over one ahead of that", calls(put(5, 4, 5), take(5, 1, 3, api.OK)), false},
		{"two deposits, three withdrawals", calls(put(5, 1, 9), put(5, 1, 9), take(5, 1, 9, api.OK), take(5, 1, 9, api.OK), take(5, 1, 9, api.ErrCover)), true},
		{"three that can't all be", calls(put(5, 1, 9), put(5, 1, 9), take(5, 1, 9, api.OK), take(5, 1, 9, api.OK), take(5, 1, 9, api.OK)), false},
		{"two reads that see it unlike", calls(put(5, 1, 9), see(2, 3, 5, 0), see(4, 5, 0, 0)), false},
		{"the other way", calls(put(5, 1, 9), see(2, 3, 0, 0), see(4, 5, 5, 0)), true},
		{"both at the same time", calls(put(5, 1, 9), see(2, 5, 5, 0), see(4, 5, 0, 0)), true},
		{"a deposit that hasn't returned is left out", calls(open(put(5, 1, 0)), see(2, 3, 0, 0)), true},
		{"or taken in", calls(open(put(5, 1, 0)), see(2, 3, 5, 0)), true},
		{"it is taken in at any time", calls(open(put(5, 1, 0)), see(2, 3, 0, 0), see(4, 5, 5, 0)), true},
		{"but not twice", calls(open(put(5, 1, 0)), see(2, 3, 10, 0)), false},
		{"nor ahead of its invocation", calls(open(put(5, 4, 0)), see(2, 3, 5, 0)), false},
		{"but at that time", calls(open(put(5, 3, 0)), see(2, 3, 5, 0)), true},
		{"nor left again", calls(open(put(5, 1, 0)), see(2, 3, 5, 0), see(4, 5, 0, 0)), false},
		{"some of them", calls(open(put(1, 1, 0)), open(put(2, 1, 0)), open(put(4, 1, 0)), see(2, 3, 5, 0)), true},
		{"none of their sums", calls(open(put(1, 1, 0)), open(put(2, 1, 0)), open(put(4, 1, 0)), see(2, 3, 8, 0)), false},
		{"only one that hasn't returned", calls(open(put(1, 1, 0))), true},
		{"what one that hasn't returned is answered isn't looked at", calls(call(deposit(0, 0, 5), 1, 0, 0, no(api.ErrKind)), see(2, 3, 5, 0)), true},
		{"a settlement behind", calls(wait(1, 5, 1, 2, api.Pending), put(5, 3, 4), see(5, 6, 0, 5)), true},
		{"none", calls(wait(1, 5, 1, 2, api.Pending), put(5, 3, 4), see(5, 6, 5, 0)), true},
		{"between two reads", calls(wait(1, 5, 1, 2, api.Pending), put(5, 3, 4), see(5, 6, 5, 0), see(7, 8, 0, 5)), true},
		{"it isn't undone", calls(wait(1, 5, 1, 2, api.Pending), put(5, 3, 4), see(5, 6, 0, 5), see(7, 8, 5, 0)), false},
		{"nor half done", calls(wait(1, 5, 1, 2, api.Pending), put(5, 3, 4), see(5, 6, 0, 0)), false},
		{"no settlement ahead of its cover", calls(wait(1, 5, 1, 2, api.Pending), ask(1, 3, 4, api.Settled), put(5, 5, 6)), false},
		{"nor of too little", calls(wait(1, 5, 1, 2, api.Pending), put(4, 3, 4), ask(1, 5, 6, api.Settled)), false},
		{"a status behind it", calls(wait(1, 5, 1, 2, api.Pending), put(5, 3, 4), ask(1, 5, 6, api.Settled)), true},
		{"a status ahead of it", calls(wait(1, 5, 1, 2, api.Pending), put(5, 3, 4), ask(1, 5, 6, api.Pending), ask(1, 7, 8, api.Settled)), true},
		{"settled, and pending then", calls(wait(1, 5, 1, 2, api.Pending), put(5, 3, 4), ask(1, 5, 6, api.Settled), ask(1, 7, 8, api.Pending)), false},
		{"settled when it came", calls(put(5, 1, 9), wait(1, 5, 2, 8, api.Settled), see(10, 11, 0, 5)), true},
		{"pending, though it was covered", calls(put(5, 1, 2), wait(1, 5, 3, 4, api.Pending)), false},
		{"cancelled ahead of it", calls(wait(1, 5, 1, 2, api.Pending), put(5, 3, 4), call(cancel(1), 5, 6, 0, said(api.Cancelled)), see(7, 8, 5, 0)), true},
		{"cancelled, and settled", calls(wait(1, 5, 1, 2, api.Pending), put(5, 3, 4), call(cancel(1), 5, 6, 0, said(api.Cancelled)), see(7, 8, 0, 5)), false},
		{"too late to cancel", calls(wait(1, 5, 1, 2, api.Pending), put(5, 3, 4), call(cancel(1), 5, 6, 0, no(api.ErrFinal))), true},
		{"the second of two is settled", calls(wait(1, 5, 1, 2, api.Pending), wait(2, 5, 3, 4, api.Pending), put(5, 5, 6), ask(1, 7, 8, api.Pending), ask(2, 7, 8, api.Settled)), true},
		{"not both", calls(wait(1, 5, 1, 2, api.Pending), wait(2, 5, 3, 4, api.Pending), put(5, 5, 6), ask(1, 7, 8, api.Settled), ask(2, 7, 8, api.Settled)), false},
		{"one brings the other's cover", calls(call(submit(1, leg(1, 2, 0, 5, 0)), 1, 2, 0, said(api.Pending)), wait(2, 5, 3, 4, api.Pending), put(5, 5, 6), ask(1, 7, 8, api.Settled)), true},
		{"of a submit that hasn't returned", calls(open(wait(1, 5, 1, 0, 0)), put(5, 2, 3), see(4, 5, 0, 5)), true},
		{"that came too late", calls(open(wait(1, 5, 6, 0, 0)), put(5, 2, 3), see(4, 5, 0, 5)), false},
		{"that hasn't returned, and was pending", calls(open(wait(1, 5, 1, 0, 0)), ask(1, 2, 3, api.Pending), put(5, 4, 5), ask(1, 6, 7, api.Settled)), true},
		{"one id, submitted twice", calls(wait(1, 5, 1, 9, api.Pending), call(submit(1, leg(0, 1, 0, 3, 0)), 2, 8, 0, no(api.ErrTwice)), put(3, 10, 11), ask(1, 12, 13, api.Settled)), false},
		{"of two submits either may be first", calls(call(submit(1, leg(0, 1, 0, 5, 0)), 1, 9, 0, no(api.ErrTwice)), wait(1, 3, 2, 8, api.Pending), put(3, 10, 11), ask(1, 12, 13, api.Settled)), true},
		{"a row that was refused", calls(call(api.Op{}, 1, 2, 0, no(api.ErrShort)), call(api.Op{}, 1, 2, 0, no(api.ErrLong)), call(api.Op{}, 1, 2, 0, no(api.ErrCode))), true},
		{"refused otherwise", calls(call(api.Op{}, 1, 2, 0, no(api.ErrArg))), false},
		{"not refused", calls(call(api.Op{}, 1, 2, 0, api.Answer{})), false},
		{"refused by itself", calls(put(0, 1, 2)), false},
		{"and told so", calls(call(deposit(0, 0, 0), 1, 2, 0, no(api.ErrAmount)), call(snapshot(0, 2), 1, 2, 0, no(api.ErrAsset))), true},
		{"a refusal doesn't hide the times", calls(call(deposit(0, 0, 0), 3, 4, 0, no(api.ErrAmount)), put(5, 5, 6), take(5, 1, 2, api.OK)), false},
		{"the greatest times", calls(put(5, 1, math.MaxInt), see(math.MaxInt-1, math.MaxInt, 5, 0)), true},
	} {
		seek(t, x.name, room(), x.calls, x.want)
	}
}

// TestSearchRoom: the queue has room for as many as the configuration says.
func TestSearchRoom(t *testing.T) {
	l := calls(wait(1, 5, 1, 9, api.Pending), wait(2, 5, 1, 9, api.Pending), call(submit(3, leg(0, 1, 0, 5, 0)), 1, 9, 0, no(api.ErrFull)))
	for queue, want := range []bool{false, false, true, false} {
		c := room()
		c.Queue = queue
		seek(t, "room", c, l, want)
	}
	c := room()
	c.Queue = 1
	// The first makes room, once it is settled or cancelled.
	seek(t, "room by a settlement", c, calls(wait(1, 5, 1, 2, api.Pending), put(5, 3, 4), wait(2, 9, 5, 6, api.Pending)), true)
	seek(t, "no room", c, calls(wait(1, 5, 1, 2, api.Pending), put(4, 3, 4), wait(2, 9, 5, 6, api.Pending)), false)
}

// TestSearchIgnores: numbers, sessions and places in them are not looked at, nor workers and shards.
func TestSearchIgnores(t *testing.T) {
	d := proof.Dice(2110)
	for _, x := range []struct {
		calls []api.Call
		want  bool
	}{
		{calls(put(5, 1, 9), see(2, 3, 0, 0), see(4, 5, 5, 0)), true},
		{calls(put(5, 1, 9), see(2, 3, 5, 0), see(4, 5, 0, 0)), false},
	} {
		for range 50 {
			l := slices.Clone(x.calls)
			for i := range l {
				l[i].Number, l[i].Session, l[i].Index = d.Number(), d.Number(), d.Number()
			}
			c := room()
			c.Shards, c.Workers = 1+d.Below(64), d.Below(9)
			seek(t, "numbers of chance", c, l, x.want)
		}
	}
}

// TestSearchErrors are those of P21.3, in their order.
func TestSearchErrors(t *testing.T) {
	eight := slices.Repeat(calls(put(5, 1, 2)), 8)
	late := put(5, 2, 2)
	for _, x := range []struct {
		name  string
		c     api.Config
		calls []api.Call
		no    api.Errno
		at    int
	}{
		{"no configuration", api.Config{}, nil, api.ErrArg, nowhere},
		{"ahead of too many", api.Config{}, make([]api.Call, 9), api.ErrArg, nowhere},
		{"eight", room(), eight, api.OK, nowhere},
		{"nine", room(), append(slices.Clone(eight), eight[0]), api.ErrMany, nowhere},
		{"nine, ahead of times", room(), append(slices.Clone(eight), late), api.ErrMany, nowhere},
		{"many", room(), make([]api.Call, 100), api.ErrMany, nowhere},
		{"not invoked", room(), calls(put(5, 0, 2)), api.ErrLoop, 0},
		{"nor returned", room(), calls(put(5, 1, 2), api.Call{}), api.ErrLoop, 1},
		{"invoked below 0", room(), calls(put(5, 1, 2), put(5, -1, 2)), api.ErrLoop, 1},
		{"invoked below 0, and not returned", room(), calls(put(5, 1, 2), put(5, math.MinInt, 0)), api.ErrLoop, 1},
		{"returned when it was invoked", room(), calls(late), api.ErrLoop, 0},
		{"returned ahead of that", room(), calls(put(5, 1, 2), put(5, 1, 2), put(5, 3, 2)), api.ErrLoop, 2},
		{"returned below 0", room(), calls(put(5, 3, -1)), api.ErrLoop, 0},
		{"the first of two", room(), calls(put(5, 1, 2), late, late), api.ErrLoop, 1},
		{"where none is found, too", room(), calls(take(5, 1, 2, api.OK), late), api.ErrLoop, 1},
		{"the eighth", room(), append(slices.Clone(eight[:7]), late), api.ErrLoop, 7},
	} {
		found, err := audit.Search(x.c, x.calls)
		if !tells(err, x.no, x.at) || found != (x.no == api.OK) {
			t.Errorf("%s: %v %v, not %v at %d", x.name, found, err, x.no, x.at)
		}
	}
}

// TestSearchOfEight: eight calls beside one another, most of which haven't returned, and that no order answers, are tried in no long time.
func TestSearchOfEight(t *testing.T) {
	last := ask(9, 1, 9, api.Settled)
	ring := calls(last)
	for id := 1; id <= 7; id++ {
		ring = append(ring, open(wait(id, int64(id), 1, 0, 0)))
	}
	mixed := calls(last, open(put(20, 1, 0)), open(put(9, 1, 0)))
	for id := 1; id <= 5; id++ {
		mixed = append(mixed, open(wait(id, int64(id), 1, 0, 0)))
	}
	marks := calls(last, open(put(20, 1, 0)))
	for name := 1; name <= 3; name++ {
		marks = append(marks, open(call(proof.Marked(api.OpMark, 0, 0, int64(name), name), 1, 0, 0, api.Answer{})), open(call(submit(name, leg(0, 1, 0, 4, name), leg(1, 0, 0, 2, 0)), 1, 0, 0, api.Answer{})))
	}
	for _, l := range [][]api.Call{ring, mixed, marks, slices.Repeat(calls(take(5, 1, 2, api.OK)), 8)} {
		if found, err := audit.Search(room(), l); found || err != nil {
			t.Errorf("%+v: %v %v", l, found, err)
		}
	}
}
