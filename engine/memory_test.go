package engine_test

import (
	"runtime"
	"slices"
	"sync"
	"testing"
	"time"

	"custody/api"
	"custody/engine"
	"custody/proof"
)

// roomy are sessions whose lists, and those in them, have spare room with junk in it: numbers, rows and sessions that would be taken, if they were looked at.
func roomy(sessions [][][]int64) [][][]int64 {
	row := deposit(0, 0, 1)
	var out [][][]int64
	for _, l := range sessions {
		var to [][]int64
		for _, x := range l {
			to = append(to, proof.Room(x, 1))
		}
		out = append(out, proof.Room(to, row))
	}
	return proof.Room(out, rows(row))
}

// whole are sessions in whose lists, and those in them, the spare room is seen too.
func whole(sessions [][][]int64) [][][]int64 {
	var out [][][]int64
	for _, l := range proof.Whole(sessions) {
		var to [][]int64
		for _, x := range proof.Whole(l) {
			to = append(to, slices.Clone(proof.Whole(x)))
		}
		out = append(out, to)
	}
	return out
}

func sameSessions(a, b [][][]int64) bool {
	return slices.EqualFunc(a, b, func(a, b [][]int64) bool { return slices.EqualFunc(a, b, slices.Equal[[]int64]) })
}

// R4: what is handed in is not changed, its spare room included, and that is not looked at.
func TestArgumentsStay(t *testing.T) {
	d := proof.Dice(2040)
	for n := range 400 {
		g := throw(&d)
		if n%2 == 0 {
			g = busy(&d)
		}
		g = g.enough(&d)
		sessions, picks := roomy(g.sessions), proof.Room(g.picks, 1)
		ahead, old := whole(sessions), slices.Clone(proof.Whole(picks))
		enough := engine.Bound(g.c, sessions)
		r, err := engine.Run(g.c, sessions, picks)
		if !sameSessions(whole(sessions), ahead) || !slices.Equal(proof.Whole(picks), old) {
			t.Fatalf("%+v, sessions %v: they became %v", g.c, ahead, whole(sessions))
		}
		if err != nil || enough != engine.Bound(g.c, g.sessions) || !proof.SameResult(r, g.play(t)) {
			t.Fatalf("%+v, sessions %v: the spare room is looked at", g.c, g.sessions)
		}
	}
}

// spoilSessions overwrites sessions, their lists, and their spare room.
func spoilSessions(sessions [][][]int64) {
	for _, l := range proof.Whole(sessions) {
		for _, x := range proof.Whole(l) {
			for i := range proof.Whole(x) {
				proof.Whole(x)[i] = -1
			}
		}
		for i := range proof.Whole(l) {
			proof.Whole(l)[i] = nil
		}
	}
	for i := range proof.Whole(sessions) {
		proof.Whole(sessions)[i] = nil
	}
}

// R4: what was handed in is not kept: who overwrites it changes nothing of the answer, nor of the next run.
func TestArgumentsAreNotKept(t *testing.T) {
	d := proof.Dice(2041)
	for range 300 {
		g := busy(&d).enough(&d)
		want, _ := reckoned(g.c, g.sessions, g.picks)
		sessions, picks := roomy(g.sessions), proof.Room(g.picks, 1)
		r, err := engine.Run(g.c, sessions, picks)
		spoilSessions(sessions)
		for i := range proof.Whole(picks) {
			proof.Whole(picks)[i] = -1
		}
		if err != nil || !proof.SameResult(r, want) || !proof.SameResult(g.play(t), want) {
			t.Fatalf("%+v, sessions %v: what was handed in is kept", g.c, g.sessions)
		}
	}
}

// places are where the things of lists lie, their spare room included; each may be there once.
type places[T any] map[*T]int

func (p places[T]) note(t *testing.T, l []T) {
	t.Helper()
	for i := range proof.Whole(l) {
		if p[&proof.Whole(l)[i]]++; p[&proof.Whole(l)[i]] > 1 {
			t.Fatalf("two lists share %+v", proof.Whole(l)[i])
		}
	}
}

// apart checks that no two lists of results share memory.
func apart(t *testing.T, results ...api.Result) (lists int) {
	t.Helper()
	legs, marks, pairs, positions := places[api.Leg]{}, places[api.Mark]{}, places[api.Key]{}, places[api.Position]{}
	for _, r := range results {
		for _, x := range r.Calls {
			legs.note(t, x.Op.Legs)
			pairs.note(t, x.Op.Pairs)
			positions.note(t, x.Answer.Positions)
			for _, p := range x.Answer.Positions {
				marks.note(t, p.Marks)
			}
		}
		for _, x := range r.State.Balances {
			marks.note(t, x.Position.Marks)
		}
		for _, x := range r.State.Instructions {
			legs.note(t, x.Record.Legs)
		}
	}
	return len(legs) + len(marks) + len(pairs) + len(positions)
}

// R4: what is answered is new memory: no two lists of one answer share any, nor two answers; who overwrites one changes no other.
func TestResultsAreNew(t *testing.T) {
	d := proof.Dice(2042)
	lists := 0
	for n := range 400 {
		g := throw(&d)
		if n%3 == 0 {
			g = busy(&d)
		}
		g = g.enough(&d)
		if n%5 == 0 {
			g = g.cut(t, &d)
		}
		want, _ := reckoned(g.c, g.sessions, g.picks)
		one, two := g.play(t), g.play(t)
		lists += apart(t, one, two)
		if proof.OverrunResult(one); !proof.SameResult(one, want) {
			t.Fatalf("%+v, sessions %v: lists share memory", g.c, g.sessions)
		}
		if proof.SpoilResult(one); !proof.SameResult(two, want) || !proof.SameResult(g.play(t), want) {
			t.Fatalf("%+v, sessions %v: answers share memory", g.c, g.sessions)
		}
	}
	if lists < 10000 {
		t.Errorf("only %d things lay in lists", lists)
	}
}

// TestMarksAreNew: marks that a snapshot shows twice, another one shows too, and the state holds, are all apart.
func TestMarksAreNew(t *testing.T) {
	sessions := sessionsOf(rows(deposit(0, 0, 5), mark(0, 0, 3, 7), snapshot(0, 0, 0, 0), snapshot(0, 0)), rows(snapshot(0, 0)))
	g := game{small(1), sessions, zeros(200)}
	r := g.play(t)
	if !r.Quiet || apart(t, r) == 0 {
		t.Fatalf("%+v", r)
	}
	r.Calls[2].Answer.Positions[0].Marks[0].Qty = 99
	if r.Calls[2].Answer.Positions[1].Marks[0].Qty != 3 || r.Calls[3].Answer.Positions[0].Marks[0].Qty != 3 || r.Calls[4].Answer.Positions[0].Marks[0].Qty != 3 || r.State.Balances[0].Position.Marks[0].Qty != 3 {
		t.Errorf("%+v", r)
	}
}

// TestLegsAreNew: the legs of a call, and those of the record that it made, are apart.
func TestLegsAreNew(t *testing.T) {
	g := game{small(0), sessionsOf(rows(submit(7, leg(0, 1, 0, 5, 0)))), zeros(20)}
	r := g.play(t)
	if r.Calls[0].Op.Legs[0].Qty = 99; r.State.Instructions[0].Record.Legs[0].Qty != 5 {
		t.Errorf("%+v", r)
	}
}

// R3: nil and an empty list mean the same.
func TestEmptyLists(t *testing.T) {
	for _, x := range []struct{ a, b [][][]int64 }{
		{nil, [][][]int64{}},
		{make([][][]int64, 2), [][][]int64{{}, make([][]int64, 0, 3)}},
		{sessionsOf(rows(nil, nil)), sessionsOf(rows([]int64{}, make([]int64, 0, 9)))},
	} {
		for _, picks := range [][]int{nil, {}, zeros(1), zeros(9)} {
			a, err := engine.Run(small(1), x.a, picks)
			b, again := engine.Run(small(1), x.b, append([]int{}, picks...))
			if err != nil || again != nil || !proof.SameResult(a, b) || engine.Bound(small(1), x.a) != engine.Bound(small(1), x.b) {
				t.Errorf("%v: %+v %v, and %+v %v", x.a, a, err, b, again)
			}
		}
	}
}

// R5: the same is answered each time, also when others run at the same time.
func TestSameEachTime(t *testing.T) {
	d := proof.Dice(2043)
	var games []game
	var want []api.Result
	for range 40 {
		g := busy(&d).enough(&d)
		games, want = append(games, g), append(want, g.play(t))
	}
	for range 3 {
		var all sync.WaitGroup
		for n, g := range games {
			all.Go(func() {
				r, err := engine.Run(g.c, g.sessions, g.picks)
				if err != nil || !proof.SameResult(r, want[n]) {
					t.Errorf("%+v, sessions %v: %+v %v, and once %+v", g.c, g.sessions, r, err, want[n])
				}
			})
		}
		all.Wait()
	}
}

// R5: goroutines that a run began have ended, also where it is cut.
func TestNoGoroutinesAreLeft(t *testing.T) {
	base := runtime.NumGoroutine()
	d := proof.Dice(2044)
	for range 50 {
		g := busy(&d).enough(&d)
		g.play(t)
		g.cut(t, &d).play(t)
	}
	// One that has answered may need a moment to be gone.
	for range 1000 {
		if runtime.NumGoroutine() <= base {
			return
		}
		time.Sleep(time.Millisecond)
	}
	t.Errorf("there are %d goroutines left", runtime.NumGoroutine()-base)
}
