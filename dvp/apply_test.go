package dvp_test

import (
	"math"
	"slices"
	"testing"

	"custody/api"
	"custody/dvp"
	"custody/proof"
)

// P17.5

// done is what an operation comes to: its answer, the positions that change, and the cells behind it (of a refusal those ahead of it).
type done struct {
	c       cells
	o       api.Op
	room    bool
	answer  api.Answer
	changed []api.Key
	after   cells
}

func no(err api.Errno) api.Answer { return api.Answer{Err: err} }

func said(status int) api.Answer { return api.Answer{Status: status} }

// does checks Apply against what is written down, and against the reckoning too.
func does(t *testing.T, l []done) {
	t.Helper()
	for n, x := range l {
		if x.answer.Err != api.OK {
			x.after = x.c
		}
		applies(t, x.c, x.o, x.room)
		v := open(x.c)
		a, changed := dvp.Apply(v, x.o, x.room)
		if !proof.SameAnswer(a, x.answer) || !slices.Equal(changed, x.changed) || !v.cells.equal(x.after) {
			t.Errorf("%d: Apply(%+v) is %+v, %v, and leaves %+v; want %+v, %v and %+v", n, x.o, a, changed, v.cells, x.answer, x.changed, x.after)
		}
	}
}

// refuses checks that an operation is refused so, with room and without.
func refuses(t *testing.T, c cells, o api.Op, err api.Errno) {
	t.Helper()
	does(t, []done{{c, o, true, no(err), nil, nil}, {c, o, false, no(err), nil, nil}})
}

// turns checks an operation on one position, with room and without.
func turns(t *testing.T, p api.Position, o api.Op, after api.Position) {
	t.Helper()
	ahead, behind := cells{}.with(o.Account, o.Asset, p), cells{}.with(o.Account, o.Asset, after)
	for _, room := range []bool{false, true} {
		does(t, []done{{ahead, o, room, api.Answer{}, keys(o.Account, o.Asset), behind}})
	}
}

func TestDeposit(t *testing.T) {
	for _, x := range []struct {
		p     api.Position
		qty   int64
		after api.Position
	}{
		{pos(0), 1, pos(1)}, {pos(0), most, pos(most)}, {pos(5), 3, pos(8)}, {pos(most - 1), 1, pos(most)},
		{pos(0, 7, 5), 2, pos(2, 7, 5)}, {pos(1, 7, most-2), 1, pos(2, 7, most-2)},
	} {
		turns(t, x.p, held(1, 2, 1, x.qty), x.after)
	}
	refuses(t, cells{}.with(2, 1, pos(most)), held(1, 2, 1, 1), api.ErrOver)
	refuses(t, cells{}.with(2, 1, pos(1)), held(1, 2, 1, most), api.ErrOver)
	refuses(t, cells{}.with(2, 1, pos(0, 7, most)), held(1, 2, 1, 1), api.ErrOver)
	refuses(t, cells{}.with(2, 1, pos(most-2, 7, 1, 8, 1)), held(1, 2, 1, 1), api.ErrOver)
}

func TestWithdraw(t *testing.T) {
	for _, x := range []struct {
		p     api.Position
		qty   int64
		after api.Position
	}{
		{pos(1), 1, pos(0)}, {pos(most), most, pos(0)}, {pos(5), 3, pos(2)}, {pos(5, 7, 9), 5, pos(0, 7, 9)},
	} {
		turns(t, x.p, held(2, 2, 1, x.qty), x.after)
		turns(t, x.p, marked(2, 2, 1, x.qty, 7), x.after) // a name is none of its fields
	}
	refuses(t, cells{}, held(2, 2, 1, 1), api.ErrCover)
	refuses(t, rich(), held(2, 2, 1, 101), api.ErrCover)
	refuses(t, rich(), held(2, 2, 1, most), api.ErrCover)
	refuses(t, cells{}.with(2, 1, pos(5, 7, 9)), marked(2, 2, 1, 6, 7), api.ErrCover) // what is set aside is not free
}

func TestMark(t *testing.T) {
	eight := pos(3, 1, 1, 2, 1, 3, 1, 4, 1, 5, 1, 6, 1, 7, 1, 8, 1)
	seven := pos(3, 1, 1, 2, 1, 3, 1, 4, 1, 5, 1, 6, 1, 8, 1)
	for _, x := range []struct {
		p     api.Position
		qty   int64
		name  int
		after api.Position
	}{
		{pos(5), 3, 7, pos(2, 7, 3)}, {pos(5), 5, 65536, pos(0, 65536, 5)}, {pos(5, 7, 3), 1, 4, pos(4, 4, 1, 7, 3)}, {pos(5, 7, 3), 2, 7, pos(3, 7, 5)},
		{pos(most), most, 1, pos(0, 1, most)},
		{seven, 2, 7, pos(1, 1, 1, 2, 1, 3, 1, 4, 1, 5, 1, 6, 1, 7, 2, 8, 1)},
		{eight, 3, 8, pos(0, 1, 1, 2, 1, 3, 1, 4, 1, 5, 1, 6, 1, 7, 1, 8, 4)},
	} {
		turns(t, x.p, marked(3, 2, 1, x.qty, x.name), x.after)
	}
	refuses(t, cells{}, marked(3, 2, 1, 1, 7), api.ErrCover)
	refuses(t, cells{}.with(2, 1, pos(5, 7, 3)), marked(3, 2, 1, 6, 7), api.ErrCover)
	refuses(t, cells{}.with(2, 1, eight), marked(3, 2, 1, 3, 9), api.ErrMany)
	refuses(t, cells{}.with(2, 1, eight), marked(3, 2, 1, 4, 9), api.ErrCover) // it is looked at first
}

func TestUnmark(t *testing.T) {
	for _, x := range []struct {
		p     api.Position
		qty   int64
		name  int
		after api.Position
	}{
		{pos(2, 7, 3), 1, 7, pos(3, 7, 2)}, {pos(2, 7, 3), 3, 7, pos(5)}, {pos(0, 1, 1, 7, 3, 65536, 2), 2, 65536, pos(2, 1, 1, 7, 3)}, {pos(0, 1, most), most, 1, pos(most)},
	} {
		turns(t, x.p, marked(4, 2, 1, x.qty, x.name), x.after)
	}
	refuses(t, cells{}, marked(4, 2, 1, 1, 7), api.ErrMark)
	refuses(t, cells{}.with(2, 1, pos(9, 7, 3)), marked(4, 2, 1, 1, 8), api.ErrMark)
	refuses(t, cells{}.with(2, 1, pos(9, 7, 3)), marked(4, 2, 1, 4, 8), api.ErrMark)
	refuses(t, cells{}.with(2, 1, pos(9, 7, 3)), marked(4, 2, 1, 4, 7), api.ErrCover)
}

// swap is an instruction of two legs.
func swap(id int, there, back int64) api.Op {
	return submit(id, leg(0, 2, 1, there, 0), leg(2, 0, 0, back, 7))
}

// ready are cells in which account 0 has 5 of asset 1, account 2 has 9 of asset 0, of which 4 under 7.
func ready() cells { return cells{}.with(0, 1, pos(5)).with(2, 0, pos(5, 7, 4)) }

func TestSubmitSettles(t *testing.T) {
	o := swap(8, 5, 9)
	after := cells{}.with(0, 0, pos(9)).with(2, 1, pos(5)).records(8, api.Settled, o.Legs...)
	for _, room := range []bool{false, true} {
		does(t, []done{
			{ready(), o, room, said(api.Settled), keys(0, 0, 0, 1, 2, 0, 2, 1), after},
			{ready(), submit(8, leg(0, 2, 1, 1, 0)), room, said(api.Settled), keys(0, 1, 2, 1), ready().with(0, 1, pos(4)).with(2, 1, pos(1)).records(8, api.Settled, leg(0, 2, 1, 1, 0))},
			{ready(), submit(1<<40, leg(2, 1, 0, 4, 7)), room, said(api.Settled), keys(1, 0, 2, 0), ready().with(2, 0, pos(5)).with(1, 0, pos(4)).records(1<<40, api.Settled, leg(2, 1, 0, 4, 7))},
		})
	}
}

// TestSubmitThatChangesNothing: legs may go there and back: a position that is the same behind them has not changed.
func TestSubmitThatChangesNothing(t *testing.T) {
	c := cells{}.with(0, 1, pos(5)).with(2, 1, pos(0, 7, 5)).with(1, 1, pos(5))
	round := submit(8, leg(0, 1, 1, 5, 0), leg(1, 0, 1, 5, 0))
	turned := submit(8, leg(0, 2, 1, 5, 0), leg(2, 0, 1, 5, 7))
	ring := submit(8, leg(0, 1, 1, 2, 0), leg(1, 2, 1, 2, 0), leg(2, 0, 1, 2, 7))
	does(t, []done{
		{c, round, false, said(api.Settled), nil, c.records(8, api.Settled, round.Legs...)},
		{c, turned, false, said(api.Settled), keys(2, 1), c.with(2, 1, pos(5)).records(8, api.Settled, turned.Legs...)}, // what came is free
		{c, ring, false, said(api.Settled), keys(2, 1), c.with(2, 1, pos(2, 7, 3)).records(8, api.Settled, ring.Legs...)},
	})
}

func TestSubmitWaits(t *testing.T) {
	for _, o := range []api.Op{
		swap(8, 6, 9), swap(8, 5, 10), swap(8, most, most),
		submit(8, leg(0, 2, 1, 5, 0), leg(2, 0, 1, 5, 0)), // all debits are there ahead of all credits
		submit(8, leg(1, 0, 0, 1, 0)),
		submit(8, leg(0, 1, 1, 3, 0), leg(0, 1, 1, 3, 0)),
	} {
		does(t, []done{
			{ready(), o, true, said(api.Pending), nil, ready().records(8, api.Pending, o.Legs...)},
			{ready(), o, false, no(api.ErrFull), nil, nil},
		})
	}
}

// TestSubmitOver: what would overflow is refused, with room too; but cover is looked at first.
func TestSubmitOver(t *testing.T) {
	c := ready().with(2, 1, pos(most-4))
	refuses(t, c, swap(8, 5, 9), api.ErrOver)
	refuses(t, c, submit(8, leg(0, 2, 1, 5, 0)), api.ErrOver)
	short := swap(8, 5, 10)
	does(t, []done{
		{c, short, true, said(api.Pending), nil, c.records(8, api.Pending, short.Legs...)},
		{c, short, false, no(api.ErrFull), nil, nil},
	})
}

// TestSubmitTwice: there is one record of an id, whatever its status, and whatever the legs.
func TestSubmitTwice(t *testing.T) {
	for _, status := range []int{api.Pending, api.Settled, api.Cancelled} {
		c := ready().records(8, status, leg(0, 1, 0, 1, 0)).with(2, 1, pos(most-4))
		refuses(t, c, submit(8, leg(0, 1, 1, 1, 0)), api.ErrTwice) // covered
		refuses(t, c, swap(8, 6, 9), api.ErrTwice)                 // not covered
		refuses(t, c, swap(8, 5, 9), api.ErrTwice)                 // it would overflow
		does(t, []done{{c, submit(9, leg(0, 1, 1, 1, 0)), false, said(api.Settled), keys(0, 1, 1, 1), c.with(0, 1, pos(4)).with(1, 1, pos(1)).records(9, api.Settled, leg(0, 1, 1, 1, 0))}})
	}
}

// TestSubmitBehindNone: of a record without a status nothing counts, its legs neither.
func TestSubmitBehindNone(t *testing.T) {
	c := ready().records(8, api.None, leg(1, 2, 3, 4, 5))
	o := swap(8, 5, 9)
	does(t, []done{{c, o, false, said(api.Settled), keys(0, 0, 0, 1, 2, 0, 2, 1), cells{}.with(0, 0, pos(9)).with(2, 1, pos(5)).records(8, api.Settled, o.Legs...)}})
	refuses(t, c, ided(6, 8), api.ErrLost)
	refuses(t, c, ided(7, 8), api.ErrLost)
}

func TestCancel(t *testing.T) {
	legs := swap(8, 6, 9).Legs
	for _, room := range []bool{false, true} {
		does(t, []done{{ready().records(8, api.Pending, legs...), ided(6, 8), room, said(api.Cancelled), nil, ready().records(8, api.Cancelled, legs...)}})
	}
	// one that is covered may be cancelled too
	legs = swap(8, 5, 9).Legs
	does(t, []done{{ready().records(8, api.Pending, legs...), ided(6, 8), true, said(api.Cancelled), nil, ready().records(8, api.Cancelled, legs...)}})
	refuses(t, ready(), ided(6, 8), api.ErrLost)
	refuses(t, ready().records(9, api.Pending, legs...), ided(6, 8), api.ErrLost)
	refuses(t, ready().records(8, api.Settled, legs...), ided(6, 8), api.ErrFinal)
	refuses(t, ready().records(8, api.Cancelled, legs...), ided(6, 8), api.ErrFinal)
}

func TestStatus(t *testing.T) {
	legs := swap(8, 5, 9).Legs
	for _, status := range []int{api.Pending, api.Settled, api.Cancelled} {
		c := ready().records(8, status, legs...)
		for _, room := range []bool{false, true} {
			does(t, []done{{c, ided(7, 8), room, said(status), nil, c}})
		}
		v := open(c)
		if dvp.Apply(v, ided(7, 8), true); len(v.put) > 0 {
			t.Errorf("Status puts to %v", v.put)
		}
	}
	refuses(t, ready(), ided(7, 8), api.ErrLost)
	refuses(t, ready().records(9, api.Pending, legs...), ided(7, 8), api.ErrLost)
}

// TestApplySnapshot: it is none of Apply's operations; what is wrong with it is told first.
func TestApplySnapshot(t *testing.T) {
	for _, x := range []struct {
		o  api.Op
		no api.Errno
	}{
		{snapshot(), api.ErrCode}, {snapshot(0, 1), api.ErrCode}, {snapshot(65535, 65535), api.ErrCode},
		{snapshot(-1, 8), api.ErrAccount}, {snapshot(65536, 0), api.ErrAccount}, {snapshot(0, 65536), api.ErrAsset}, {snapshot(0, 1, 0, -1), api.ErrAsset},
		{api.Op{Code: 8, Pairs: make([]api.Key, 64)}, api.ErrCode}, {api.Op{Code: 8, Pairs: make([]api.Key, 65)}, api.ErrMany},
	} {
		refuses(t, ready(), x.o, x.no)
	}
}

// TestApplyWrong: what is wrong with an operation by itself, in the widest ledger, is its refusal.
func TestApplyWrong(t *testing.T) {
	c := rich().records(8, api.Pending, leg(0, 1, 0, 1, 0)).records(0, api.Pending, leg(0, 1, 0, 1, 0)).records(1<<40+1, api.Pending, leg(0, 1, 0, 1, 0))
	for code := 1; code <= 4; code++ {
		for _, x := range []struct {
			o  api.Op
			no api.Errno
		}{
			{marked(code, -1, -1, 0, 0), api.ErrAccount}, {marked(code, 65536, 0, 1, 7), api.ErrAccount}, {marked(code, math.MinInt, 0, 1, 7), api.ErrAccount}, {marked(code, -1, 8, 1, 7), api.ErrAccount},
			{marked(code, 0, -1, 0, 0), api.ErrAsset}, {marked(code, 65535, 65536, 1, 7), api.ErrAsset},
			{marked(code, 0, 0, 0, 0), api.ErrAmount}, {marked(code, 0, 0, -1, 7), api.ErrAmount}, {marked(code, 65535, 65535, least, 7), api.ErrAmount},
		} {
			refuses(t, c, x.o, x.no)
		}
	}
	for _, code := range []int{3, 4} {
		for _, name := range []int{math.MinInt, -1, 0, 65537, math.MaxInt} {
			refuses(t, c, marked(code, 0, 0, 1, name), api.ErrMark)
		}
	}
	for code := 5; code <= 7; code++ {
		for _, id := range []int{math.MinInt, -1, 0, 1<<40 + 1, math.MaxInt} {
			refuses(t, c, api.Op{Code: code, Id: id, Legs: []api.Leg{leg(0, 1, 0, 1, 0)}}, api.ErrArg)
		}
	}
	for _, x := range wrongLegs() {
		refuses(t, c, submit(7, x.legs...), x.no)
		refuses(t, c, submit(8, x.legs...), x.no) // ahead of what is held
		refuses(t, c, submit(0, x.legs...), api.ErrArg)
	}
	for _, code := range []int{math.MinInt, -1, 0, 9, 256, 1<<32 + 1, math.MaxInt} {
		refuses(t, c, full(code), api.ErrCode)
	}
}

// TestApplyWidest: the last account, asset and id of the widest ledger are taken.
func TestApplyWidest(t *testing.T) {
	turns(t, pos(0), held(1, 65535, 65535, 1), pos(1))
	turns(t, pos(1), marked(3, 65535, 65535, 1, 65536), pos(0, 65536, 1))
	legs := []api.Leg{leg(65535, 65534, 65535, 1, 65536)}
	does(t, []done{{cells{}, submit(1<<40, legs...), true, said(api.Pending), nil, cells{}.records(1<<40, api.Pending, legs...)}})
}

// TestApplyKeepsTheRest: a cell that is put is the one that stood there, with the position or the record turned.
func TestApplyKeepsTheRest(t *testing.T) {
	legs := []api.Leg{leg(1, 2, 3, 4, 5)}
	c := ready().records(8, api.Pending, legs...).records(9, api.None)
	for k, x := range c {
		x.Position.Marks = append(x.Position.Marks, api.Mark{Name: 9, Qty: 1})
		if k.Account != -1 {
			x.Record = api.Record{Status: api.Pending, Legs: legs}
		}
		c[k] = x
	}
	for _, o := range []api.Op{held(1, 0, 1, 1), held(2, 2, 0, 1), marked(3, 2, 0, 1, 7), marked(4, 2, 0, 1, 7), swap(9, 5, 9), swap(9, 6, 9), ided(6, 8)} {
		_, after := applies(t, c, o, true)
		for k := range c {
			if k.Account == -1 && !proof.SamePosition(after[k].Position, c[k].Position) || k.Account != -1 && !proof.SameRecord(after[k].Record, c[k].Record) {
				t.Errorf("%+v turns %+v under %v to %+v", o, c[k], k, after[k])
			}
		}
	}
}

// TestApplyAllSmall holds all small operations of one account, over small positions and all statuses, against the reckoning.
func TestApplyAllSmall(t *testing.T) {
	full := pos(2, 1, 1, 2, 1, 3, 1, 4, 1, 5, 1, 6, 1, 7, 1, 9, 1)
	for _, p := range []api.Position{pos(0), pos(1), pos(2), pos(0, 7, 2), pos(1, 7, 1), pos(1, 8, 1), pos(most), pos(most-1, 7, 1), full} {
		for status := range 4 {
			c := cells{}.with(0, 0, p).with(1, 0, pos(1)).records(1, status, leg(0, 1, 0, 2, 7))
			for code := range 10 {
				for _, qty := range []int64{-1, 0, 1, 2, 3, most} {
					for _, name := range []int{0, 7, 8} {
						for _, room := range []bool{false, true} {
							o := api.Op{Code: code, Qty: qty, Name: name, Id: 1, Legs: []api.Leg{leg(0, 1, 0, qty, name)}, Pairs: keys(0, 0)}
							applies(t, c, o, room)
							o.Id = 2
							applies(t, c, o, room)
						}
					}
				}
			}
		}
	}
}
