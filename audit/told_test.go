package audit_test

import (
	"testing"

	"custody/api"
	"custody/audit"
	"custody/proof"
)

const most = api.MaxAmount

var (
	pos      = proof.Position
	leg      = proof.Leg
	submit   = proof.Submit
	snapshot = proof.Snapshot
)

func deposit(account, asset int, qty int64) api.Op {
	return proof.Held(api.OpDeposit, account, asset, qty)
}

func withdraw(account, asset int, qty int64) api.Op {
	return proof.Held(api.OpWithdraw, account, asset, qty)
}

func cancel(id int) api.Op { return proof.Identified(api.OpCancel, id) }

func status(id int) api.Op { return proof.Identified(api.OpStatus, id) }

// Answers

func said(status int) api.Answer { return api.Answer{Status: status} }

func no(err api.Errno) api.Answer { return api.Answer{Err: err} }

func shows(l ...api.Position) api.Answer { return api.Answer{Positions: l} }

// call is an operation that was invoked and has returned at these times, with this number.
func call(o api.Op, invoked, returned, number int, a api.Answer) api.Call {
	return api.Call{Op: o, Invoked: invoked, Returned: returned, Number: number, Answer: a}
}

// sessions are calls, by their sessions.
func sessions(l ...[]api.Call) []api.Call {
	var out []api.Call
	for session, row := range l {
		for index, x := range row {
			x.Session, x.Index = session, index
			out = append(out, x)
		}
	}
	return out
}

// each are calls, each in a session of its own.
func each(l ...api.Call) []api.Call {
	var rows [][]api.Call
	for _, x := range l {
		rows = append(rows, []api.Call{x})
	}
	return sessions(rows...)
}

// nowhere is the place of an error that tells none.
const nowhere = -1

// tells tells whether err is this one, with this place.
func tells(err error, no api.Errno, at int) bool {
	if at == nowhere {
		return proof.Tells(err, no)
	}
	return proof.TellsAt(err, no, 0, at)
}

// judge holds Check, and the model, against what is written down.
func judge(t *testing.T, name string, c api.Config, r api.Result, no api.Errno, at int) {
	t.Helper()
	if err := audit.Check(c, r); !tells(err, no, at) {
		t.Errorf("%s: Check is %v (%#v), not %v at %d", name, err, err, no, at)
	}
	if got, place := judged(c, r); got != no || place != at {
		t.Errorf("%s: the model is wrong: %v at %d, not %v at %d", name, got, place, no, at)
	}
}

// seek holds Search, and the model, against what is written down.
func seek(t *testing.T, name string, c api.Config, calls []api.Call, want bool) {
	t.Helper()
	if got, err := audit.Search(c, calls); got != want || err != nil {
		t.Errorf("%s: Search is %v %v, not %v", name, got, err, want)
	}
	if sought(c, calls) != want {
		t.Errorf("%s: the model is wrong: not %v", name, want)
	}
}
