package tx_test

import (
	"slices"
	"testing"

	"custody/api"
	"custody/proof"
	"custody/store"
	"custody/tx"
)

// game is a play of chance, and what it came to.
type game struct {
	tasks             [][]api.Txn
	registers, shards int
	picks             []int
	x                 api.Played
}

// eachGame plays many games.
func eachGame(t *testing.T, seed uint64, test func(t *testing.T, g game)) {
	t.Helper()
	d := roll(seed)
	for range 3000 {
		g := game{registers: proof.Of(d, 1, 2, 3, 8, 64), shards: proof.Of(d, 1, 2, 3, 16, 64)}
		g.tasks = drawPlay(d, g.registers)
		enough := bound(g.tasks)
		g.picks = d.Picks(proof.Of(d, enough, enough+d.Below(9), d.Below(enough+1), d.Below(enough/4+1), d.Below(enough/8+1)))
		var err error
		if g.x, err = tx.Play(g.tasks, g.registers, g.shards, g.picks); err != nil {
			t.Fatal(err)
		}
		test(t, g)
		if t.Failed() {
			t.Fatalf("%d registers, %d shards, tasks %v, picks %v: %+v", g.registers, g.shards, g.tasks, g.picks, g.x)
		}
	}
}

func (g game) txn(x api.Done) api.Txn { return g.tasks[x.Task][x.Index] }

// numbered tells whether this one has a number of its own.
func (g game) numbered(x api.Done) bool { return x.Number > 0 && !g.txn(x).Read }

// byNumber are the numbered ones, by rising numbers.
func (g game) byNumber() []api.Done {
	var out []api.Done
	for _, x := range g.x.Dones {
		if g.numbered(x) {
			out = append(out, x)
		}
	}
	slices.SortFunc(out, func(a, b api.Done) int { return a.Number - b.Number })
	return out
}

// serial does a transaction alone over registers: what it reads. Registers whose shards it doesn't lock read as 0, and stay as they are.
func (g game) serial(state map[int]int64, x api.Txn) []int64 {
	locked := map[int]bool{}
	for _, r := range x.Keys {
		locked[store.Shard(key(0, r), g.shards)] = true
	}
	var out []int64
	for _, a := range x.Do {
		held := locked[store.Shard(key(0, a.A), g.shards)]
		switch {
		case a.Kind == 3:
			return out
		case a.Kind == 0 && held:
			out = append(out, state[a.A])
		case a.Kind == 0:
			out = append(out, 0)
		case a.Kind == 1 && held:
			state[a.A] = a.B
		case a.Kind == 2 && held:
			state[a.A] += a.B
		}
	}
	return out
}

// behind are the registers behind the first n numbered ones.
func (g game) behind(n int) map[int]int64 {
	state := map[int]int64{}
	for _, x := range g.byNumber()[:n] {
		g.serial(state, g.txn(x))
	}
	return state
}

// TestSerial is P12.12, and so W7.
func TestSerial(t *testing.T) {
	returned, open := 0, 0
	eachGame(t, 1212, func(t *testing.T, g game) {
		state := map[int]int64{}
		for i, x := range g.byNumber() {
			if x.Number != i+1 {
				t.Fatalf("number %d stands at %d", x.Number, i+1)
			}
			got := g.serial(state, g.txn(x))
			switch {
			case x.Returned == 0:
				open++
			case !slices.Equal(got, x.Reads):
				t.Fatalf("number %d read %v, and one by one %v", x.Number, x.Reads, got)
			default:
				returned++
			}
		}
		for r, v := range g.x.Values {
			if state[r] != v {
				t.Fatalf("register %d is %d, and one by one %d", r, v, state[r])
			}
		}
		if g.x.Quiet && len(g.x.Values) != g.registers || !g.x.Quiet && len(g.x.Values) > 0 {
			t.Fatalf("quiet: %v, %d registers", g.x.Quiet, len(g.x.Values))
		}
	})
	if returned < 5000 || open < 300 {
		t.Errorf("only %d numbered ones returned, and %d didn't", returned, open)
	}
}

// TestAtOneMoment is P12.13.
func TestAtOneMoment(t *testing.T) {
	late := 0
	eachGame(t, 1213, func(t *testing.T, g game) {
		count := len(g.byNumber())
		for _, x := range g.x.Dones {
			if !g.txn(x).Read || x.Returned == 0 {
				continue
			}
			if x.Number < 0 || x.Number > count {
				t.Fatalf("a Read of the number %d, of %d", x.Number, count)
			}
			state := g.behind(x.Number)
			var want []int64
			for _, r := range g.txn(x).Keys {
				want = append(want, state[r])
			}
			if !slices.Equal(x.Reads, want) {
				t.Fatalf("a Read of the number %d is %v, not %v", x.Number, x.Reads, want)
			}
			if x.Number > 0 && x.Number < count {
				late++
			}
		}
	})
	if late < 500 {
		t.Errorf("only %d Reads lay between numbers", late)
	}
}

// TestInRealTime is P12.14.
func TestInRealTime(t *testing.T) {
	pairs := 0
	eachGame(t, 1214, func(t *testing.T, g game) {
		read := func(x api.Done) bool { return g.txn(x).Read && x.Returned > 0 }
		for _, a := range g.x.Dones {
			for _, b := range g.x.Dones {
				if a.Returned == 0 || a.Returned >= b.Invoked {
					continue
				}
				switch {
				case g.numbered(a) && g.numbered(b):
					if a.Number >= b.Number {
						t.Fatalf("%+v returned ahead of %+v", a, b)
					}
				case (read(a) || g.numbered(a)) && (read(b) || g.numbered(b)):
					if a.Number > b.Number {
						t.Fatalf("%+v returned ahead of %+v", a, b)
					}
				default:
					continue
				}
				if a.Task != b.Task {
					pairs++
				}
			}
		}
	})
	if pairs < 5000 {
		t.Errorf("only %d pairs of two tasks", pairs)
	}
}

// TestTimes: times are 1 to as many as there are, each once; a task's rise; transactions stand by task and index.
func TestTimes(t *testing.T) {
	eachGame(t, 1218, func(t *testing.T, g game) {
		var times []int
		for i, x := range g.x.Dones {
			times = append(times, x.Invoked)
			if x.Returned > 0 {
				times = append(times, x.Returned)
			}
			if i == 0 {
				continue
			}
			before := g.x.Dones[i-1]
			if x.Task < before.Task || x.Task == before.Task && (x.Index != before.Index+1 || x.Invoked != before.Returned+1 && x.Invoked < before.Returned) {
				t.Fatalf("%+v stands behind %+v", x, before)
			}
			if x.Task > before.Task && x.Index != 0 {
				t.Fatalf("%+v is the first of its task", x)
			}
		}
		slices.Sort(times)
		for i, time := range times {
			if time != i+1 {
				t.Fatalf("times are %v", times)
			}
		}
	})
}

// TestGivenUp is P12.15.
func TestGivenUp(t *testing.T) {
	count := 0
	eachGame(t, 1215, func(t *testing.T, g game) {
		for _, x := range g.x.Dones {
			gives := !g.txn(x).Read && slices.ContainsFunc(g.txn(x).Do, func(a api.Act) bool { return a.Kind == 3 })
			if x.GaveUp != (gives && x.Returned > 0) || gives && x.Number != 0 {
				t.Fatalf("%+v gives up: %v", x, gives)
			}
			if !x.GaveUp {
				continue
			}
			found := false
			for n := range len(g.byNumber()) + 1 {
				found = found || slices.Equal(g.serial(g.behind(n), g.txn(x)), x.Reads)
			}
			if !found {
				t.Fatalf("%+v is not to be read behind any number", x)
			}
			if len(x.Reads) > 0 {
				count++
			}
		}
	})
	if count < 300 {
		t.Errorf("only %d gave up and had read", count)
	}
}

// TestNoDeadlock is P12.16.
func TestNoDeadlock(t *testing.T) {
	ended := 0
	eachGame(t, 1216, func(t *testing.T, g game) {
		count := 0
		for _, l := range g.tasks {
			count += len(l)
		}
		if len(g.picks) >= bound(g.tasks) && !g.x.Quiet {
			t.Fatalf("cut with %d picks", len(g.picks))
		}
		if !g.x.Quiet {
			return
		}
		ended++
		if len(g.x.Dones) != count || slices.ContainsFunc(g.x.Dones, func(x api.Done) bool { return x.Returned == 0 }) {
			t.Fatalf("of %d transactions not all returned", count)
		}
	})
	if ended < 1000 {
		t.Errorf("only %d runs weren't cut", ended)
	}
}

// drawTransfers are tasks whose transactions add what is 0 together, to registers that they lock, or give up; and Reads of all registers.
func drawTransfers(d *proof.Dice, registers int) [][]api.Txn {
	all := make([]int, registers)
	for r := range all {
		all[r] = r
	}
	tasks := make([][]api.Txn, 1+d.Below(8))
	for i := range tasks {
		for range d.Below(9) {
			if d.Below(3) == 0 {
				tasks[i] = append(tasks[i], readOf(all...))
				continue
			}
			x := lock(append(draws(d, 4, all...), proof.Of(d, all...)))
			sum := int64(0)
			for range d.Below(5) {
				b := int64(d.Next())
				sum += b
				x.Do = append(x.Do, add(proof.Of(d, x.Keys...), b))
			}
			x.Do = append(x.Do, add(proof.Of(d, x.Keys...), -sum))
			if d.Below(4) == 0 {
				x.Do = append(x.Do[:d.Below(len(x.Do))], giveUp())
			}
			tasks[i] = append(tasks[i], x)
		}
	}
	return tasks
}

func total(l []int64) int64 {
	sum := int64(0)
	for _, v := range l {
		sum += v
	}
	return sum
}

// TestConservation is P12.17.
func TestConservation(t *testing.T) {
	d := roll(1217)
	moved := 0
	for range 2000 {
		registers, shards := proof.Of(d, 1, 2, 4, 9), proof.Of(d, 1, 2, 3, 16, 64)
		tasks := drawTransfers(d, registers)
		picks := d.Picks(proof.Of(d, bound(tasks), d.Below(bound(tasks))))
		x, err := tx.Play(tasks, registers, shards, picks)
		if err != nil || total(x.Values) != 0 {
			t.Fatalf("%d registers, %d shards, tasks %v, picks %v: %v, %v", registers, shards, tasks, picks, err, x.Values)
		}
		for _, done := range x.Dones {
			if !tasks[done.Task][done.Index].Read {
				continue
			}
			if total(done.Reads) != 0 {
				t.Fatalf("%d registers, %d shards, tasks %v, picks %v: %+v", registers, shards, tasks, picks, done)
			}
			if slices.ContainsFunc(done.Reads, func(v int64) bool { return v != 0 }) {
				moved++
			}
		}
	}
	if moved < 2000 {
		t.Errorf("only %d Reads saw something", moved)
	}
}

// TestShardsAreNotSeen: of one task the answers are the same whatever the shards, if it acts on what it locks alone; only the turns are others.
func TestShardsAreNotSeen(t *testing.T) {
	d := roll(1219)
	for range 300 {
		tasks := drawTransfers(d, 6)[:1]
		want, err := tx.Play(tasks, 6, 1, zeros(bound(tasks)))
		if err != nil {
			t.Fatal(err)
		}
		for _, shards := range ints(2, 3, 7, 64) {
			got, err := tx.Play(tasks, 6, shards, zeros(bound(tasks)))
			got.Turns = want.Turns
			if err != nil || !samePlayed(got, want) {
				t.Fatalf("%d shards, tasks %v: %+v %v, not %+v", shards, tasks, got, err, want)
			}
		}
	}
}
