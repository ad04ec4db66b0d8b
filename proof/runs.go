package proof

import (
	"slices"

	"custody/api"
)

// Row is an operation as a row of numbers, once more; of a code that there isn't it is the code alone.
func Row(o api.Op) []int64 {
	code, account, asset, name, id := int64(o.Code), int64(o.Account), int64(o.Asset), int64(o.Name), int64(o.Id)
	switch o.Code {
	case api.OpDeposit, api.OpWithdraw:
		return []int64{code, account, asset, o.Qty}
	case api.OpMark, api.OpUnmark:
		return []int64{code, account, asset, o.Qty, name}
	case api.OpSubmit:
		row := []int64{code, id}
		for _, l := range o.Legs {
			row = append(row, int64(l.From), int64(l.To), int64(l.Asset), l.Qty, int64(l.Name))
		}
		return row
	case api.OpCancel, api.OpStatus:
		return []int64{code, id}
	case api.OpSnapshot:
		row := []int64{code}
		for _, k := range o.Pairs {
			row = append(row, int64(k.Account), int64(k.Asset))
		}
		return row
	}
	return []int64{code}
}

// Rows are operations as rows: a session of them.
func Rows(l ...api.Op) [][]int64 {
	var rows [][]int64
	for _, o := range l {
		rows = append(rows, Row(o))
	}
	return rows
}

// SmallOp is an operation in a ledger of three accounts and two assets, with an id from 1 to ids. What it asks for is little, so that what one lacks others bring.
func (d *Dice) SmallOp(ids int) api.Op {
	code := Of(d, 1, 1, 1, 1, 1, 2, 2, 3, 3, 4, 5, 5, 5, 5, 5, 6, 7, 8, 8)
	account, asset, qty, name, id := d.Below(3), d.Below(2), 1+int64(d.Below(6)), 1+d.Below(2), 1+d.Below(ids)
	switch code {
	case api.OpSubmit:
		return Submit(id, d.smallLegs()...)
	case api.OpCancel, api.OpStatus:
		return Identified(code, id)
	case api.OpSnapshot:
		return Of(d, Snapshot(0, asset, 1, asset, 2, asset), Snapshot(2, 1, account, asset, 2, 1), Snapshot(account, asset), Snapshot())
	case api.OpMark, api.OpUnmark:
		return Marked(code, account, asset, qty, name)
	}
	return Held(code, account, asset, qty)
}

// smallLegs are from 1 to 4 legs.
func (d *Dice) smallLegs() []api.Leg {
	var l []api.Leg
	for range Of(d, 1, 1, 2, 2, 3, 4) {
		from, to := d.ends()
		l = append(l, Leg(from, to, d.Below(2), 1+int64(d.Below(6)), Of(d, 0, 0, 1, 2)))
	}
	return l
}

// SmallRow is the row of a SmallOp, in which seldom something is wrong, or of which something is missing or left over.
func (d *Dice) SmallRow(ids int) []int64 {
	o := d.SmallOp(ids)
	switch d.Below(24) {
	case 0:
		o.Legs = d.Legs(5)
		d.Twist(&o)
	case 1:
		row := Row(o)
		return Of(d, row[:d.Below(len(row))], append(row, 0), append(row, d.wide()...), nil, []int64{0}, []int64{9, 1})
	case 2:
		if o.Code == api.OpDeposit {
			o.Qty = api.MaxAmount - int64(d.Below(9))
		}
	}
	return Row(o)
}

// wide are as many numbers as make a row of legs or pairs too long for an operation.
func (d *Dice) wide() []int64 {
	return slices.Repeat([]int64{0, 1, 0, 1, 0, 1, 1, 1, 1, 0}, d.Below(14))
}

// Sessions are from 0 to sessions many, of from 0 to ops rows each.
func (d *Dice) Sessions(sessions, ops, ids int) [][][]int64 {
	l := make([][][]int64, d.Below(sessions+1))
	for n := range l {
		for range d.Below(ops + 1) {
			l[n] = append(l[n], d.SmallRow(ids))
		}
	}
	return l
}

// Run is how a run of chance is set up, in a ledger of three accounts and two assets, and its sessions.
func (d *Dice) Run() (api.Config, [][][]int64) {
	c := api.Config{Accounts: 3, Assets: 2, Queue: Of(d, 0, 1, 2, 4, 256), Shards: Of(d, 1, 2, 3, 5, 64), Workers: Of(d, 0, 1, 1, 2, 3, 8)}
	return c, d.Sessions(Of(d, 1, 3, 6, 16), Of(d, 3, 8, 20), Of(d, 3, 12, 60))
}

// BusyRun is a run in which workers have much to do: many instructions over one asset wait for the same few deposits.
func (d *Dice) BusyRun() (api.Config, [][][]int64) {
	c := api.Config{Accounts: 3, Assets: 2, Queue: 4 + d.Below(30), Shards: Of(d, 1, 2, 4, 64), Workers: 1 + d.Below(8)}
	var sessions [][][]int64
	id := 0
	for range 2 + d.Below(5) {
		var l []api.Op
		for range d.Below(20) {
			account, qty := d.Below(3), int64(1+d.Below(4))
			id++
			next, back := Leg(account, (account+1)%3, 0, qty, 0), Leg((account+1)%3, account, 1, qty, 0)
			l = append(l, Of(d, Submit(id, next), Submit(id, next), Submit(id, next, back), Held(api.OpDeposit, account, 0, qty), Held(api.OpDeposit, account, 1, qty),
				Held(api.OpWithdraw, account, 0, qty), Identified(api.OpCancel, 1+d.Below(id)), Identified(api.OpStatus, 1+d.Below(id)), Snapshot(0, 0, 1, 0, 2, 0)))
		}
		sessions = append(sessions, Rows(l...))
	}
	return c, sessions
}

// SameCall tells whether two calls are the same; nil and empty lists are the same.
func SameCall(a, b api.Call) bool {
	return a.Session == b.Session && a.Index == b.Index && SameOp(a.Op, b.Op) && a.Invoked == b.Invoked && a.Returned == b.Returned && a.Number == b.Number && SameAnswer(a.Answer, b.Answer)
}

// SameResult tells whether two results are the same; nil and empty lists are the same.
func SameResult(a, b api.Result) bool {
	return slices.EqualFunc(a.Calls, b.Calls, SameCall) && slices.Equal(a.Settles, b.Settles) && SameState(a.State, b.State) && a.Quiet == b.Quiet && a.Stuck == b.Stuck && a.Turns == b.Turns
}

func junkCall() api.Call { return api.Call{Session: -88, Op: Snapshot(-89, -90), Returned: -91} }

func junkSettle() api.Settle { return api.Settle{Worker: -92, Id: -93} }

// RoomyCalls is a copy of calls in which all lists have spare room with junk in it.
func RoomyCalls(l []api.Call) []api.Call {
	out := Room(l, junkCall())
	for i, x := range out {
		out[i].Op, out[i].Answer = RoomyOp(x.Op), RoomyAnswer(x.Answer)
	}
	return out
}

// WholeCalls is a copy of calls in whose lists, and those in them, the spare room is seen too.
func WholeCalls(l []api.Call) []api.Call {
	out := slices.Clone(Whole(l))
	for i, x := range out {
		out[i].Op.Legs, out[i].Op.Pairs, out[i].Answer = slices.Clone(Whole(x.Op.Legs)), slices.Clone(Whole(x.Op.Pairs)), WholeAnswer(x.Answer)
	}
	return out
}

// RoomyResult is a copy of a result in which all lists have spare room with junk in it.
func RoomyResult(r api.Result) api.Result {
	r.Calls, r.Settles, r.State = RoomyCalls(r.Calls), Room(r.Settles, junkSettle()), RoomyState(r.State)
	return r
}

// WholeResult is a copy of a result in whose lists, and those in them, the spare room is seen too.
func WholeResult(r api.Result) api.Result {
	r.Calls, r.Settles, r.State = WholeCalls(r.Calls), slices.Clone(Whole(r.Settles)), WholeState(r.State)
	return r
}

// OverrunResult fills the spare room of a result's lists, and of those in them, as one who was given it may. If two of them shared memory, one would be changed.
func OverrunResult(r api.Result) {
	for _, x := range r.Calls {
		spoil(spare(x.Op.Legs), junkLeg())
		spoil(spare(x.Op.Pairs), junkKey())
		OverrunAnswer(x.Answer)
	}
	spoil(spare(r.Calls), junkCall())
	spoil(spare(r.Settles), junkSettle())
	OverrunState(r.State)
}

// SpoilResult overwrites a result's lists, those in them, and their spare room.
func SpoilResult(r api.Result) {
	for _, x := range r.Calls {
		SpoilOp(x.Op)
		SpoilAnswer(x.Answer)
	}
	spoil(Whole(r.Calls), junkCall())
	spoil(Whole(r.Settles), junkSettle())
	SpoilState(r.State)
}
