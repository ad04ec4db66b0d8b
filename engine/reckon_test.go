package engine_test

import (
	"testing"

	"custody/api"
	"custody/engine"
	"custody/proof"
)

// game is a run of chance.
type game struct {
	c        api.Config
	sessions [][][]int64
	picks    []int
}

// throw throws a run in a ledger of three accounts and two assets.
func throw(d *proof.Dice) game {
	c, sessions := d.Run()
	return game{c: c, sessions: sessions}
}

// enough gives a game as many picks as are enough, or so many that more are hardly ever.
func (g game) enough(d *proof.Dice) game {
	g.picks = d.Picks(min(engine.Bound(g.c, g.sessions), 20000))
	return g
}

// cut takes picks away, so that the run is cut at any of its turns.
func (g game) cut(t *testing.T, d *proof.Dice) game {
	t.Helper()
	g.picks = g.picks[:d.Below(g.play(t).Turns+1)]
	return g
}

// play is what the engine makes of it.
func (g game) play(t *testing.T) api.Result {
	t.Helper()
	r, err := engine.Run(g.c, g.sessions, g.picks)
	if err != nil {
		t.Fatalf("%+v, sessions %v: %v", g.c, g.sessions, err)
	}
	return r
}

// agree holds what the engine makes of a game against the model.
func (g game) agree(t *testing.T) (api.Result, seen) {
	t.Helper()
	got := g.play(t)
	want, s := reckoned(g.c, g.sessions, g.picks)
	if !proof.SameResult(got, want) {
		t.Fatalf("%+v, sessions %v, picks %v:\n%+v\nnot\n%+v", g.c, g.sessions, g.picks, got, want)
	}
	return got, s
}

// TestRunsAgainstModel is P20.1 to P20.4: all that is told of runs of chance, cut or not, against the second reckoning.
func TestRunsAgainstModel(t *testing.T) {
	d := proof.Dice(2010)
	var all seen
	cut, quiet := 0, 0
	for range 6000 {
		g := throw(&d).enough(&d)
		if d.Below(3) == 0 {
			g = g.cut(t, &d)
		}
		r, s := g.agree(t)
		all.add(s)
		if r.Quiet {
			quiet++
		} else {
			cut++
		}
	}
	if all.few(150) || cut < 500 || quiet < 500 {
		t.Errorf("the runs are too much alike: %+v, %d cut, %d quiet", all, cut, quiet)
	}
}

// busy is a game in which workers have much to do.
func busy(d *proof.Dice) game {
	c, sessions := d.BusyRun()
	return game{c: c, sessions: sessions}
}

// TestBusyRunsAgainstModel is P20.3 and P20.4: the same where workers have much to do.
func TestBusyRunsAgainstModel(t *testing.T) {
	d := proof.Dice(2011)
	var all seen
	for range 1500 {
		g := busy(&d).enough(&d)
		if d.Below(3) == 0 {
			g = g.cut(t, &d)
		}
		_, s := g.agree(t)
		all.add(s)
	}
	if all.few(100) || all.settles < 3000 || all.woken < 2000 || all.backs < 5000 {
		t.Errorf("the runs are too much alike: %+v", all)
	}
}
