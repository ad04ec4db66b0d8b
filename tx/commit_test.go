package tx_test

import (
	"slices"
	"testing"

	"custody/api"
	"custody/proof"
	"custody/sched"
)

// TestCommitTurnByTurn is P12.7: what is held, numbered and laid down behind each turn.
func TestCommitTurnByTurn(t *testing.T) {
	eachType(t, func(t *testing.T, made func(shards int) managed) {
		low, empty, high, more := keyIn(0, 5, 0), keyIn(2, 5, 0), keyIn(4, 5, 0), keyIn(4, 5, 1)
		for turn, want := range []struct {
			held                     []int
			number, stable, versions int
			keys                     []api.Key
		}{
			{nil, 0, 0, 0, nil},
			{ints(0), 0, 0, 0, nil},
			{ints(0, 2), 0, 0, 0, nil},
			{ints(0, 2, 4), 0, 0, 0, nil},
			{ints(0, 2, 4, 6), 0, 0, 0, nil},
			{ints(0, 2, 4, 6, 8), 0, 0, 0, nil},
			{ints(0, 2, 4), 1, 0, 0, nil},
			{ints(0, 2, 4), 1, 0, 1, keys(low)},
			{ints(0, 2, 4), 1, 0, 1, keys(low)},
			{ints(0, 2, 4), 1, 0, 3, keys(low, high, more)},
			{nil, 1, 1, 3, keys(low, high, more)},
		} {
			m, got := made(5), -1
			var a begun
			x := at(m, make([]int, turn), 10, func(task *sched.Task) {
				a = m.begin(task, high, low, empty)
				puts(t, a, more, 3, true)
				puts(t, a, low, 1, true)
				puts(t, a, high, 2, true)
				takes(t, a, true, 6, 8)
				got = a.Commit()
			})
			number := 0
			if a != nil {
				number = a.Number()
			}
			if !slices.Equal(x.held, want.held) || number != want.number || x.stable != want.stable || x.versions != want.versions {
				t.Errorf("behind %d turns: %v held, number %d, Stable %d, %d versions; not %v", turn, x.held, number, x.stable, x.versions, want)
			}
			list := slices.Clone(want.keys)
			slices.SortFunc(list, func(a, b api.Key) int { return a.Asset - b.Asset })
			keysAre(t, m, list...)
			if ended := turn == 10; x.trace.Ended[0] != ended || (got == 1) != ended {
				t.Errorf("behind %d turns: ended %v, answered %d", turn, x.trace.Ended[0], got)
			}
		}
	})
}

// TestCommitTurns: a turn ends when the number is there, and one for each shard that is held, whatever was put.
func TestCommitTurns(t *testing.T) {
	eachType(t, func(t *testing.T, made func(shards int) managed) {
		for _, x := range sets() {
			for writes := range 3 {
				m := made(x.shards)
				run(t, func(task *sched.Task) {
					a := m.begin(task, x.keys...)
					for range writes {
						for _, k := range x.keys {
							puts(t, a, k, 4, true)
						}
					}
					before := task.Now()
					same(t, "Commit", a.Commit(), 1)
					same(t, "turns of Commit", task.Now()-before, 1+len(x.want))
				})
				same(t, "Stable", m.Stable(), 1)
				if writes == 0 {
					keysAre(t, m)
				}
			}
		}
	})
}

// TestCommitOfTheLast: of several values that were put under a key the last one counts, under one number.
func TestCommitOfTheLast(t *testing.T) {
	eachType(t, func(t *testing.T, made func(shards int) managed) {
		m, k := made(3), key(1, 1)
		run(t, func(task *sched.Task) {
			a := m.begin(task, k)
			for _, v := range ints(5, 6, 0, 7) {
				puts(t, a, k, v, true)
			}
			a.Commit()
			reads(t, m, task, keys(k), 1, 7)
		})
		same(t, "Versions", m.Versions(), 1)
	})
}

// TestEndedTwice: behind its end nothing is asked of the task, though it holds the same mutexes again by another transaction.
func TestEndedTwice(t *testing.T) {
	eachType(t, func(t *testing.T, made func(shards int) managed) {
		for _, give := range []bool{false, true} {
			m, k := made(2), keyIn(1, 2, 0)
			run(t, func(task *sched.Task) {
				a := m.begin(task, k)
				takes(t, a, true, 5, 6)
				puts(t, a, k, 1, true)
				number := 0
				if give {
					a.GiveUp()
				} else {
					number = a.Commit()
				}
				b := m.begin(task, k)
				takes(t, b, true, 5, 6)
				before := task.Now()
				for range 2 {
					same(t, "Commit behind the end", a.Commit(), 0)
					a.GiveUp()
					same(t, "Number behind the end", a.Number(), number)
				}
				same(t, "turns", task.Now()-before, 0)
				same(t, "Stable", m.Stable(), number)
				for _, mutex := range ints(1, 5, 6) {
					if !task.Unlock(mutex) {
						t.Errorf("given up: %v: %d was given back twice", give, mutex)
					}
				}
				same(t, "Commit of the next one", b.Commit(), number+1)
			})
		}
	})
}

// TestGiveUp is P12.8: all is given back in the turn in which it is asked, and nothing else is seen of the transaction.
func TestGiveUp(t *testing.T) {
	eachType(t, func(t *testing.T, made func(shards int) managed) {
		for _, x := range sets() {
			m := made(x.shards)
			got := at(m, make([]int, len(x.want)+3), x.shards+5, func(task *sched.Task) {
				a := m.begin(task, x.keys...)
				for _, k := range x.keys {
					puts(t, a, k, 1, true)
				}
				takes(t, a, true, x.shards, x.shards+2)
				before := task.Now()
				a.GiveUp()
				same(t, "turns of GiveUp", task.Now()-before, 0)
				same(t, "Number", a.Number(), 0)
				task.Yield()
				t.Error("it was to have no more turns")
			})
			if len(got.held) > 0 || got.stable != 0 || got.versions != 0 {
				t.Errorf("%v: %v are held; Stable %d, %d versions", x.keys, got.held, got.stable, got.versions)
			}
			keysAre(t, m)
		}
	})
}

// TestGiveUpUsesNoNumber: the next one's number is the next.
func TestGiveUpUsesNoNumber(t *testing.T) {
	eachType(t, func(t *testing.T, made func(shards int) managed) {
		m, k := made(2), key(1, 1)
		run(t, func(task *sched.Task) {
			for n := 1; n < 5; n++ {
				a := m.begin(task, k)
				puts(t, a, k, 900, true)
				a.GiveUp()
				same(t, "Commit", lays(t, m, task, n, k), n)
				lastIs(t, m, k, n, true)
			}
		})
	})
}

// TestLesserNumberNotDone: who is done ahead of a lesser number gives its shards back, and is parked till that is done too.
func TestLesserNumberNotDone(t *testing.T) {
	eachType(t, func(t *testing.T, made func(shards int) managed) {
		low, high := keyIn(0, 2, 0), keyIn(1, 2, 0)
		// Each begins, is numbered, lays down; the second one is done, and is parked; then the first one is done.
		picks := ints(0, 1, 0, 1, 1, 1)
		tasks := func(m managed, answers *[2]int) []func(*sched.Task) {
			return []func(*sched.Task){
				func(task *sched.Task) { answers[0] = lays(t, m, task, 5, low) },
				func(task *sched.Task) { answers[1] = lays(t, m, task, 6, high) },
			}
		}
		m, answers := made(2), [2]int{}
		x := at(m, picks, 3, tasks(m, &answers)...)
		if x.trace.Parked[1] != 0 || !slices.Equal(x.held, ints(0)) || x.stable != 0 || x.versions != 1 || answers != [2]int{} {
			t.Errorf("the second one is done: %v, answered %v", x, answers)
		}
		lastIs(t, m, high, 6, true)
		lastIs(t, m, low, 0, false)
		m, answers = made(2), [2]int{}
		x = at(m, append(picks, 0, 0), 3, tasks(m, &answers)...)
		if x.trace.Parked[1] != -1 || !x.trace.Ended[0] || len(x.held) > 0 || x.stable != 2 || answers != [2]int{1, 0} {
			t.Errorf("both are done: %v, answered %v", x, answers)
		}
		m, answers = made(2), [2]int{}
		x = at(m, append(picks, 0, 0, 0), 3, tasks(m, &answers)...)
		if !x.trace.Ended[1] || answers != [2]int{1, 2} {
			t.Errorf("both have answered: %v, answered %v", x, answers)
		}
	})
}

// TestParkedAgain: each number that is done wakes all that are parked; who still has to wait is parked again.
func TestParkedAgain(t *testing.T) {
	eachType(t, func(t *testing.T, made func(shards int) managed) {
		m := made(3)
		var answered []int
		var tasks []func(*sched.Task)
		for n := range 3 {
			tasks = append(tasks, func(task *sched.Task) {
				got := lays(t, m, task, n+1, keyIn(n, 3, 0))
				answered = append(answered, got, task.Now(), m.Stable())
			})
		}
		// All begin, all are numbered; the third one is done, then the second one: both are parked; the first one, alone runnable but for who was waked, comes last.
		x := runBy(t, ints(0, 1, 2, 0, 1, 2, 2, 2, 1, 1, 1, 0, 0, 0, 0, 0, 0), tasks...)
		if want := ints(1, 13, 3, 2, 14, 3, 3, 15, 3); !slices.Equal(answered, want) || x.Turns != 15 {
			t.Errorf("answered %v, not %v, in %d turns", answered, want, x.Turns)
		}
	})
}

// orders are all orders of the numbers below n.
func orders(n int) [][]int {
	if n == 0 {
		return [][]int{nil}
	}
	var out [][]int
	for _, l := range orders(n - 1) {
		for place := range n {
			out = append(out, slices.Insert(slices.Clone(l), place, n-1))
		}
	}
	return out
}

// TestStableInEachOrder: whatever the order in which numbers are done, Stable is the greatest one up to which all are.
func TestStableInEachOrder(t *testing.T) {
	const count = 4
	for _, order := range orders(count) {
		for dones := range count + 1 {
			m := managing(proof.Numbers())(count)
			var tasks []func(*sched.Task)
			var able []int // who is runnable, rising
			picks := ints(0, 1, 2, 3, 0, 1, 2, 3)
			for n := range count {
				tasks = append(tasks, func(task *sched.Task) { lays(t, m, task, 1, keyIn(n, count, 0)) })
				able = append(able, n)
			}
			// By now task n has the number n + 1; each then lays down, and is done.
			var done, parked []int
			stable := 0
			for _, n := range order[:dones] {
				place := slices.Index(able, n)
				picks = append(picks, place, place)
				able = append(slices.Delete(able, place, place+1), parked...)
				done, parked = append(done, n+1), nil
				for slices.Contains(done, stable+1) {
					stable++
				}
				if stable < n+1 {
					parked = ints(n)
				}
				slices.Sort(able)
			}
			x := at(m, picks, 0, tasks...)
			wantParked := -1
			if len(parked) > 0 {
				wantParked = parked[0]
			}
			if x.stable != stable || slices.Index(x.trace.Parked, 0) != wantParked {
				t.Errorf("%v are done: Stable is %d, not %d; parked: %v", done, x.stable, stable, x.trace.Parked)
			}
		}
	}
}

// TestVersionsArePruned: of a key that is written again and again two versions are kept: the newest, and the one that counts at Stable while the newest is laid down.
func TestVersionsArePruned(t *testing.T) {
	eachType(t, func(t *testing.T, made func(shards int) managed) {
		m, k, other := made(3), key(1, 1), key(2, 2)
		run(t, func(task *sched.Task) {
			for n := 1; n <= 6; n++ {
				same(t, "Commit", lays(t, m, task, n, k), n)
				same(t, "Versions", m.Versions(), min(n, 2))
			}
			// Only keys that are put are pruned.
			for n := range 3 {
				lays(t, m, task, n, other)
				same(t, "Versions", m.Versions(), 2+min(n+1, 2))
			}
			lays(t, m, task, 9, k)
			same(t, "Versions", m.Versions(), 4)
		})
	})
}

// TestPrunedWithStable: while a lesser number isn't done, what counts at Stable is kept, and all behind it.
func TestPrunedWithStable(t *testing.T) {
	eachType(t, func(t *testing.T, made func(shards int) managed) {
		m, slow, k := made(2), keyIn(0, 2, 0), keyIn(1, 2, 0)
		var counts []int
		writer := func(task *sched.Task) {
			lays(t, m, task, 1, k)
			counts = append(counts, m.Versions())
		}
		first := func(task *sched.Task) {
			lays(t, m, task, 1, k)
			lays(t, m, task, 2, k)
			counts = append(counts, m.Versions())
			lays(t, m, task, 3, slow)
		}
		// Task 0 has done two, and has the number 3; the others write while 3 isn't done, and are parked.
		// Each that is done wakes those, and they are parked again.
		picks := append(make([]int, 8), slices.Repeat(ints(1), 4+4+1+4+2)...)
		x := at(m, picks, 0, first, writer, writer, writer)
		same(t, "Stable", x.stable, 2)
		same(t, "Versions", x.versions, 4)
		if !slices.Equal(x.trace.Parked[:4], ints(-1, 0, 0, 0)) || !slices.Equal(counts, ints(2)) {
			t.Errorf("parked: %v; counted %v", x.trace.Parked[:4], counts)
		}
	})
}
