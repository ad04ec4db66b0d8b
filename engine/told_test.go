package engine_test

import (
	"slices"
	"testing"

	"custody/api"
	"custody/engine"
	"custody/guard"
	"custody/proof"
	"custody/store"
)

const most = api.MaxAmount

var (
	pos   = proof.Position
	leg   = proof.Leg
	holds = proof.Balance
)

// Rows of operations

func deposit(account, asset int, qty int64) []int64 {
	return proof.Row(proof.Held(api.OpDeposit, account, asset, qty))
}

func withdraw(account, asset int, qty int64) []int64 {
	return proof.Row(proof.Held(api.OpWithdraw, account, asset, qty))
}

func mark(account, asset int, qty int64, name int) []int64 {
	return proof.Row(proof.Marked(api.OpMark, account, asset, qty, name))
}

func unmark(account, asset int, qty int64, name int) []int64 {
	return proof.Row(proof.Marked(api.OpUnmark, account, asset, qty, name))
}

func submit(id int, legs ...api.Leg) []int64 { return proof.Row(proof.Submit(id, legs...)) }

func cancel(id int) []int64 { return proof.Row(proof.Identified(api.OpCancel, id)) }

func status(id int) []int64 { return proof.Row(proof.Identified(api.OpStatus, id)) }

func snapshot(pairs ...int) []int64 { return proof.Row(proof.Snapshot(pairs...)) }

func rows(l ...[]int64) [][]int64 { return l }

func sessionsOf(l ...[][]int64) [][][]int64 { return l }

// zeros are so many picks of 0: each task does all that it can, by rising numbers.
func zeros(n int) []int { return make([]int, n) }

// turns are picks: of each pair a place and how often it is picked.
func turns(pairs ...int) []int {
	var l []int
	for i := 0; i < len(pairs); i += 2 {
		l = append(l, slices.Repeat([]int{pairs[i]}, pairs[i+1])...)
	}
	return l
}

// Answers

func said(status int) api.Answer { return api.Answer{Status: status} }

func no(err api.Errno) api.Answer { return api.Answer{Err: err} }

func shows(l ...api.Position) api.Answer { return api.Answer{Positions: l} }

// line is what is told of an operation: when it was invoked, when it returned, its number and its answer.
type line struct {
	invoked, returned, number int
	answer                    api.Answer
}

// calls are the first operations of each session, of which so much is told.
func calls(sessions [][][]int64, lines ...[]line) []api.Call {
	var l []api.Call
	for session, told := range lines {
		for index, x := range told {
			o, _ := guard.Decode(sessions[session][index])
			l = append(l, api.Call{Session: session, Index: index, Op: o, Invoked: x.invoked, Returned: x.returned, Number: x.number, Answer: x.answer})
		}
	}
	return l
}

// States

func held(l ...api.Balance) []api.Balance { return l }

func record(id, status int, legs ...api.Leg) api.Instruction {
	return api.Instruction{Id: id, Record: api.Record{Status: status, Legs: legs}}
}

// state is one of these balances and instructions, whose pending ones wait in this order.
func state(balances []api.Balance, l ...api.Instruction) api.State {
	s := api.State{Balances: balances}
	for _, x := range l {
		if x.Record.Status == api.Pending {
			s.Queue = append(s.Queue, x.Id)
		}
	}
	slices.SortFunc(l, func(a, b api.Instruction) int { return a.Id - b.Id })
	s.Instructions = l
	return s
}

// told is a run, and what it comes to by hand.
type told struct {
	name     string
	config   api.Config
	sessions [][][]int64
	picks    []int
	want     api.Result
}

// small is the configuration of the chapter's examples.
func small(workers int) api.Config {
	return api.Config{Accounts: 2, Assets: 2, Queue: 2, Shards: 1, Workers: workers}
}

// check holds runs, and the model's reckoning of them, against what is written down.
func check(t *testing.T, l ...told) {
	t.Helper()
	for _, x := range l {
		got, err := engine.Run(x.config, x.sessions, x.picks)
		if err != nil || !proof.SameResult(got, x.want) {
			t.Errorf("%s:\n%+v %v\nnot\n%+v", x.name, got, err, x.want)
		}
		if again, _ := reckoned(x.config, x.sessions, x.picks); !proof.SameResult(again, x.want) {
			t.Errorf("%s: the model is wrong:\n%+v\nnot\n%+v", x.name, again, x.want)
		}
	}
}

// quiet is a run of picks of 0 that isn't cut, and what it comes to.
func quiet(name string, c api.Config, sessions [][][]int64, turns int, s api.State, lines ...[]line) told {
	return told{name, c, sessions, zeros(1000), api.Result{Calls: calls(sessions, lines...), State: s, Quiet: true, Turns: turns}}
}

// step is a row of a session, the number that it has, and what it is answered.
type step struct {
	row    []int64
	number int
	answer api.Answer
}

// alone is a run of one session without workers, each of whose operations has returned ahead of the next.
func alone(name string, c api.Config, turns int, s api.State, l ...step) told {
	var session [][]int64
	var lines []line
	for i, x := range l {
		session = append(session, x.row)
		lines = append(lines, line{2*i + 1, 2*i + 2, x.number, x.answer})
	}
	return quiet(name, c, sessionsOf(session), turns, s, lines)
}

// settled is a result with settlements.
func (x told) settled(l ...api.Settle) told {
	x.want.Settles = l
	return x
}

// lying is an account, from the first one on, whose position of asset 0 lies in a shard of so many.
func lying(shard, shards, first int) int {
	for account := first; ; account++ {
		if store.Shard(api.Key{Account: account}, shards) == shard {
			return account
		}
	}
}

// shardOfRecord is where an instruction's record lies.
func shardOfRecord(id, shards int) int {
	return store.Shard(api.Key{Account: -1, Asset: id}, shards)
}

// recorded is an id, from the first one on, whose record lies in a shard of so many.
func recorded(shard, shards, first int) int {
	for id := first; ; id++ {
		if shardOfRecord(id, shards) == shard {
			return id
		}
	}
}
