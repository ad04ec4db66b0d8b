package audit_test

import (
	"slices"
	"testing"

	"custody/api"
	"custody/audit"
	"custody/engine"
	"custody/proof"
)

// P21.4: Check is nil of each result of engine.Run: runs of chance, cut or not.
func TestRunsAreRight(t *testing.T) {
	d := proof.Dice(2120)
	quiet, cut, calls, settles := 0, 0, 0, 0
	for n := range 3000 {
		c, sessions := d.Run()
		if n%3 == 0 {
			c, sessions = d.BusyRun()
		}
		g := played(t, &d, c, sessions)
		if err := audit.Check(g.c, g.r); err != nil {
			t.Fatalf("%+v, %+v: %v (%#v)", g.c, g.r, err, err)
		}
		if g.r.Quiet {
			quiet++
		} else {
			cut++
		}
		calls += len(g.r.Calls)
		settles += len(g.r.Settles)
	}
	if quiet < 1000 || cut < 500 || calls < 20000 || settles < 1000 {
		t.Errorf("%d quiet, %d cut, %d calls, %d settlements", quiet, cut, calls, settles)
	}
}

// P21.4: the same of runs that are cut at each of their turns.
func TestCutRunsAreRight(t *testing.T) {
	d := proof.Dice(2121)
	for range 40 {
		c, sessions := d.BusyRun()
		picks := d.Picks(min(engine.Bound(c, sessions), 300))
		for n := range picks {
			r, err := engine.Run(c, sessions, picks[:n])
			if err != nil {
				t.Fatal(err)
			}
			if err := audit.Check(c, r); err != nil {
				t.Fatalf("%+v, sessions %v, picks %v: %+v is told %v (%#v)", c, sessions, picks[:n], r, err, err)
			}
			if r.Quiet {
				break
			}
		}
	}
}

// P21.4: and of runs with raw rows of which anything may be wrong.
func TestRawRunsAreRight(t *testing.T) {
	d := proof.Dice(2122)
	refused := map[api.Errno]int{}
	for range 500 {
		c, sessions := d.Run()
		c.Accounts, c.Assets = 1+d.Below(4), 1+d.Below(3)
		for _, rows := range sessions {
			for i := range rows {
				if d.Below(3) == 0 {
					rows[i] = proof.Row(d.AnyOp())
				}
			}
		}
		g := played(t, &d, c, sessions)
		if err := audit.Check(g.c, g.r); err != nil {
			t.Fatalf("%+v, %+v: %v (%#v)", g.c, g.r, err, err)
		}
		for _, x := range g.r.Calls {
			refused[x.Answer.Err]++
		}
	}
	if min(refused[api.ErrShort], refused[api.ErrLong], refused[api.ErrCode], refused[api.ErrArg], refused[api.ErrAccount], refused[api.ErrMark]) < 20 {
		t.Errorf("too little is refused: %v", refused)
	}
}

// right are games of which Check is nil: short runs of the engine, and made ones.
func right(t *testing.T, d *proof.Dice) game {
	t.Helper()
	g := made(d, 1+d.Below(8))
	if d.Below(2) == 0 {
		g = shortRun(t, d)
	}
	if err := audit.Check(g.c, g.r); err != nil {
		t.Fatalf("%+v, %+v: %v (%#v)", g.c, g.r, err, err)
	}
	return g
}

// P21.2: results that are made right are so, of any length.
func TestMadeAreRight(t *testing.T) {
	d := proof.Dice(2123)
	quiet, settles := 0, 0
	for range 2000 {
		g := made(&d, 1+d.Below(30))
		if err := audit.Check(g.c, g.r); err != nil {
			t.Fatalf("%+v, %+v: %v (%#v)", g.c, g.r, err, err)
		}
		if g.r.Quiet {
			quiet++
		}
		settles += len(g.r.Settles)
	}
	if quiet < 50 || settles < 1000 {
		t.Errorf("%d quiet, %d settlements", quiet, settles)
	}
}

// P21.2: results in which something is turned, against the second reckoning.
func TestCheckAgainstModel(t *testing.T) {
	d := proof.Dice(2124)
	seen := map[api.Errno]int{}
	for range 40000 {
		g := right(t, &d)
		for range 1 + d.Below(3) {
			g = twisted(&d, g)
		}
		no, at := judged(g.c, g.r)
		if err := audit.Check(g.c, g.r); !tells(err, no, at) {
			t.Fatalf("%+v, %+v: %v (%#v), not %v at %d", g.c, g.r, err, err, no, at)
		}
		seen[no]++
	}
	for _, no := range []api.Errno{api.OK, api.ErrArg, api.ErrTwice, api.ErrLost, api.ErrForm, api.ErrLoop, api.ErrShort, api.ErrSum} {
		if seen[no] < 200 {
			t.Errorf("%v was told %d times", no, seen[no])
		}
	}
	if seen[api.ErrCover] < 10 {
		t.Errorf("%v", seen)
	}
}

// P21.2: results of which nothing need be right, against the second reckoning.
func TestCheckOfAny(t *testing.T) {
	d := proof.Dice(2125)
	for range 20000 {
		r := anyResult(&d, 1+d.Below(9))
		r.Quiet, r.Stuck = d.Below(2) == 0, d.Below(2)
		c := room()
		c.Workers, c.Shards = d.Below(10), d.Below(66)
		no, at := judged(c, r)
		if err := audit.Check(c, r); !tells(err, no, at) {
			t.Fatalf("%+v, %+v: %v (%#v), not %v at %d", c, r, err, err, no, at)
		}
	}
}

// P21.5: where Check is nil and there are at most 8 calls, Search is true.
func TestRightIsFound(t *testing.T) {
	d := proof.Dice(2126)
	sizes := [9]int{}
	for range 6000 {
		g := right(t, &d)
		if len(g.r.Calls) > 8 {
			continue
		}
		sizes[len(g.r.Calls)]++
		if found, err := audit.Search(g.c, g.r.Calls); !found || err != nil {
			t.Fatalf("%+v, %+v: Search is %v %v", g.c, g.r, found, err)
		}
	}
	if slices.Min(sizes[:]) < 50 {
		t.Errorf("of each number of calls there were %v", sizes)
	}
}

// P21.6: if the answer of one numbered call that has returned, or of a read, is another one, Check isn't nil; and it tells that place, as all ahead of it is as it was.
func TestOtherAnswers(t *testing.T) {
	d := proof.Dice(2127)
	numbered, reads := 0, 0
	for range 4000 {
		g := right(t, &d)
		for i, x := range g.r.Calls {
			read := x.Op.Code == api.OpSnapshot
			if x.Returned == 0 || x.Number == 0 && !read || read && x.Answer.Err != api.OK {
				continue
			}
			r := clone(g.r)
			r.Calls[i].Answer = otherAnswer(&d, x.Answer)
			if err := audit.Check(g.c, r); !tells(err, api.ErrForm, i) {
				t.Fatalf("%+v, %+v, and %+v at %d: %v (%#v)", g.c, g.r, r.Calls[i].Answer, i, err, err)
			}
			if read {
				reads++
			} else {
				numbered++
			}
		}
	}
	if numbered < 5000 || reads < 1000 {
		t.Errorf("%d numbered calls, %d reads", numbered, reads)
	}
}

// few are calls, at most five, in which something may be turned.
func few(t *testing.T, d *proof.Dice) (api.Config, []api.Call) {
	t.Helper()
	for {
		g := right(t, d)
		if len(g.r.Calls) == 0 || len(g.r.Calls) > 5 {
			continue
		}
		l := slices.Clone(g.r.Calls)
		for range d.Below(4) {
			twistCall(d, l)
		}
		if !slices.ContainsFunc(l, func(x api.Call) bool { return x.Invoked < 1 || x.Returned != 0 && x.Returned <= x.Invoked }) {
			return g.c, l
		}
	}
}

// P21.3: against the second reckoning.
func TestSearchAgainstModel(t *testing.T) {
	d := proof.Dice(2128)
	seen := [2]int{}
	for range 10000 {
		c, l := few(t, &d)
		want := sought(c, l)
		if found, err := audit.Search(c, l); found != want || err != nil {
			t.Fatalf("%+v, %+v: %v %v, not %v", c, l, found, err, want)
		}
		if want {
			seen[1]++
		} else {
			seen[0]++
		}
	}
	if min(seen[0], seen[1]) < 2000 {
		t.Errorf("%d were not found, %d were", seen[0], seen[1])
	}
}

// P21.7: Search doesn't ask in which order the calls stand.
func TestSearchInAnyOrder(t *testing.T) {
	d := proof.Dice(2129)
	for range 3000 {
		c, l := few(t, &d)
		want, _ := audit.Search(c, l)
		for range 4 {
			for i := range l {
				j := d.Below(i + 1)
				l[i], l[j] = l[j], l[i]
			}
			if found, err := audit.Search(c, l); found != want || err != nil {
				t.Fatalf("%+v, %+v: %v %v, and once %v", c, l, found, err, want)
			}
		}
	}
}

// P21.7: with a call more that hasn't returned Search stays true.
func TestSearchWithMore(t *testing.T) {
	d := proof.Dice(2130)
	found := 0
	for range 3000 {
		c, l := few(t, &d)
		ok, err := audit.Search(c, l)
		for ok && err == nil && len(l) < 8 {
			more := call(proof.Of(&d, d.SmallOp(3), d.SmallOp(3), d.AnyOp(), api.Op{}), 1+d.Below(90), 0, d.Number(), proof.Of(&d, api.Answer{}, no(api.ErrShort), said(1)))
			l = slices.Insert(l, d.Below(len(l)+1), more)
			if ok, err = audit.Search(c, l); !ok || err != nil {
				t.Fatalf("%+v, %+v, with %+v: %v %v", c, l, more, ok, err)
			}
			found++
		}
	}
	if found < 2000 {
		t.Errorf("only %d calls more", found)
	}
}

// numberless are the calls of a game as they are told, with other numbers, sessions and places.
func numberless(d *proof.Dice, l []api.Call) []api.Call {
	l = slices.Clone(l)
	for i := range l {
		l[i].Number, l[i].Session, l[i].Index = d.Number(), d.Number(), d.Number()
	}
	return l
}

// P21.3: numbers, sessions and places in them are not looked at.
func TestSearchWithoutNumbers(t *testing.T) {
	d := proof.Dice(2131)
	for range 3000 {
		c, l := few(t, &d)
		want, _ := audit.Search(c, l)
		if found, err := audit.Search(c, numberless(&d, l)); found != want || err != nil {
			t.Fatalf("%+v, %+v: %v %v, and once %v", c, l, found, err, want)
		}
	}
}

// P21.2: Turns and Worker are not looked at.
func TestCheckIgnores(t *testing.T) {
	d := proof.Dice(2132)
	for range 5000 {
		g := right(t, &d)
		if d.Below(2) == 0 {
			g = twisted(&d, g)
		}
		no, at := judged(g.c, g.r)
		r := clone(g.r)
		r.Turns = d.Number()
		for i := range r.Settles {
			r.Settles[i].Worker = d.Number()
		}
		if err := audit.Check(g.c, r); !tells(err, no, at) {
			t.Fatalf("%+v, %+v: %v (%#v), not %v at %d", g.c, r, err, err, no, at)
		}
	}
}
