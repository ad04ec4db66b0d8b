package tx_test

import (
	"slices"
	"testing"

	"custody/api"
	"custody/sched"
	"custody/tx"
)

// TestExample is what the shards, the numbers and the store come to in a short row of calls.
func TestExample(t *testing.T) {
	eachType(t, func(t *testing.T, made func(shards int) managed) {
		m, k, other := made(4), key(1, 2), key(7, 0)
		run(t, func(task *sched.Task) {
			a := m.begin(task, k)
			gets(t, a, k, 0, false)
			puts(t, a, k, 11, true)
			same(t, "Number", a.Number(), 0)
			takes(t, a, false, 3)
			takes(t, a, true, 9)
			takes(t, a, false, 9)
			takes(t, a, true, 10)
			gets(t, a, k, 11, true)
			lastIs(t, m, k, 0, false)
			same(t, "Commit", a.Commit(), 1)
			same(t, "Stable", m.Stable(), 1)
			b := m.begin(task, k, other)
			puts(t, b, k, 12, true)
			b.GiveUp()
			lastIs(t, m, k, 11, true)
			same(t, "Number", b.Number(), 0)
			reads(t, m, task, keys(other, k, k), 1, 0, 11, 11)
		})
		keysAre(t, m, k)
		same(t, "Versions", m.Versions(), 1)
	})
}

// TestNew is P12.1: a new manager holds nothing, whatever the shards count as, and two of them know nothing of one another.
func TestNew(t *testing.T) {
	eachType(t, func(t *testing.T, made func(shards int) managed) {
		for _, x := range []struct{ shards, counted int }{
			{least, 1}, {-1, 1}, {0, 1}, {1, 1}, {2, 2}, {63, 63}, {64, 64}, {65, 64}, {most, 64},
		} {
			m, other := made(x.shards), made(x.shards)
			for range 2 {
				same(t, "Stable", m.Stable(), 0)
				same(t, "Versions", m.Versions(), 0)
				keysAre(t, m)
				for _, k := range someKeys() {
					lastIs(t, m, k, 0, false)
				}
				run(t, func(task *sched.Task) { lays(t, other, task, 3, someKeys()...) })
			}
			run(t, func(task *sched.Task) {
				reads(t, m, task, keys(someKeys()[0]), 0, 0)
				a := m.begin(task, someKeys()...)
				takes(t, a, false, least, -1, 0, x.counted-1)
				takes(t, a, true, x.counted)
				same(t, "Commit", a.Commit(), 1)
			})
		}
	})
}

// sets are lists of keys, and the shards of them, rising, of so many shards.
func sets() []struct {
	shards int
	keys   []api.Key
	want   []int
} {
	in := func(shards int, l ...int) []api.Key {
		var out []api.Key
		for n, shard := range l {
			out = append(out, keyIn(shard, shards, n))
		}
		return out
	}
	return []struct {
		shards int
		keys   []api.Key
		want   []int
	}{
		{1, nil, nil},
		{5, nil, nil},
		{5, keys(), nil},
		{1, in(1, 0), ints(0)},
		{1, in(1, 0, 0, 0), ints(0)},
		{5, in(5, 3), ints(3)},
		{5, in(5, 0), ints(0)},
		{5, in(5, 4), ints(4)},
		{5, slices.Repeat(in(5, 2), 3), ints(2)},
		{5, in(5, 2, 2), ints(2)},
		{5, in(5, 1, 3), ints(1, 3)},
		{5, in(5, 3, 1), ints(1, 3)},
		{5, in(5, 4, 3, 2, 1, 0), ints(0, 1, 2, 3, 4)},
		{5, in(5, 2, 0, 4, 0, 2, 2), ints(0, 2, 4)},
		{64, in(64, 63, 0, 31, 63), ints(0, 31, 63)},
	}
}

// TestBegin is P12.2: a turn ends for each shard, and behind each turn one shard more is held, from the lowest on.
func TestBegin(t *testing.T) {
	eachType(t, func(t *testing.T, made func(shards int) managed) {
		for _, x := range sets() {
			for n := range len(x.want) + 2 {
				m, begun := made(x.shards), false
				got := at(m, make([]int, n), x.shards+1, func(task *sched.Task) {
					m.begin(task, x.keys...)
					begun = true
					task.Yield()
				})
				if !slices.Equal(got.held, x.want[:min(n, len(x.want))]) || begun != (n > len(x.want)) {
					t.Errorf("%d shards, %v: behind %d turns %v are held, begun: %v", x.shards, x.keys, n, got.held, begun)
				}
			}
			m := made(x.shards)
			run(t, func(task *sched.Task) {
				before := task.Now()
				a := m.begin(task, x.keys...)
				same(t, "turns of Begin", task.Now()-before, len(x.want))
				same(t, "Number", a.Number(), 0)
				same(t, "Stable", m.Stable(), 0)
			})
		}
	})
}

// TestBeginWaits: where another task has a shard, those below it are held, and those above it are not yet.
func TestBeginWaits(t *testing.T) {
	eachType(t, func(t *testing.T, made func(shards int) managed) {
		all := keys(keyIn(4, 5, 0), keyIn(3, 5, 0), keyIn(1, 5, 0), keyIn(0, 5, 0))
		shards := ints(0, 1, 3, 4)
		for place, shard := range shards {
			m := made(5)
			first := func(task *sched.Task) {
				m.begin(task, keyIn(shard, 5, 7))
				for {
					task.Yield()
				}
			}
			second := func(task *sched.Task) { m.begin(task, all...) }
			got := at(m, append(ints(0), slices.Repeat(ints(1), place+1)...), 6, first, second)
			if got.trace.Waiting[1] != shard || !slices.Equal(got.held, shards[:place+1]) {
				t.Errorf("shard %d is another's: it waits for %d, and %v are held", shard, got.trace.Waiting[1], got.held)
			}
		}
	})
}

// TestHeldTillTheEnd: who begins with a shard that is held goes on when the other has ended, and sees what it wrote.
func TestHeldTillTheEnd(t *testing.T) {
	eachType(t, func(t *testing.T, made func(shards int) managed) {
		for _, give := range []bool{false, true} {
			m, k := made(3), key(1, 1)
			var begun, ended int
			first := func(task *sched.Task) {
				a := m.begin(task, k)
				puts(t, a, k, 5, true)
				for range 4 {
					task.Yield()
				}
				if give {
					a.GiveUp()
				} else {
					a.Commit()
				}
				ended = task.Now()
			}
			second := func(task *sched.Task) {
				b := m.begin(task, k)
				begun = task.Now()
				gets(t, b, k, map[bool]int{false: 5}[give], !give)
				b.Commit()
			}
			runBy(t, append(ints(0, 1), make([]int, 30)...), first, second)
			if begun <= ended {
				t.Errorf("the second one began in turn %d, and the first one ended in %d", begun, ended)
			}
		}
	})
}

// TestGetAndPut are P12.3 and P12.4.
func TestGetAndPut(t *testing.T) {
	eachType(t, func(t *testing.T, made func(shards int) managed) {
		m := made(5)
		// Of one shard: one that has a value, one that has none, one that Begin isn't asked for; and one of another shard.
		old, none, beside, far := keyIn(2, 5, 0), keyIn(2, 5, 1), keyIn(2, 5, 2), keyIn(3, 5, 0)
		run(t, func(task *sched.Task) {
			lays(t, m, task, 7, old, far)
			before := task.Now()
			a := m.begin(task, old, none)
			gets(t, a, old, 7, true)
			gets(t, a, none, 0, false)
			gets(t, a, beside, 0, false)
			gets(t, a, far, 0, false)
			puts(t, a, far, 9, false)
			gets(t, a, far, 0, false)
			for n, k := range keys(old, none, beside) {
				puts(t, a, k, 10+n, true)
				gets(t, a, k, 10+n, true)
				puts(t, a, k, 20+n, true)
				gets(t, a, k, 20+n, true)
			}
			puts(t, a, none, 0, true)
			gets(t, a, none, 0, true)
			same(t, "turns", task.Now()-before, 1)
			same(t, "Versions", m.Versions(), 2)
			lastIs(t, m, old, 7, true)
			lastIs(t, m, none, 0, false)
			lastIs(t, m, far, 7, true)
			same(t, "Commit", a.Commit(), 2)
			for _, k := range keys(old, none, beside, far) {
				gets(t, a, k, 0, false)
				puts(t, a, k, 30, false)
			}
			lastIs(t, m, old, 20, true)
			lastIs(t, m, none, 0, true)
			lastIs(t, m, beside, 22, true)
			lastIs(t, m, far, 7, true)
			b := m.begin(task, far, old)
			gets(t, b, old, 20, true)
			gets(t, b, none, 0, true)
			gets(t, b, far, 7, true)
			puts(t, b, far, 40, true)
			b.GiveUp()
			for _, k := range keys(old, none, beside, far) {
				gets(t, b, k, 0, false)
				puts(t, b, k, 50, false)
			}
			lastIs(t, m, far, 7, true)
		})
	})
}

// TestNoKeys: a transaction without shards gets and puts nothing, and has a number all the same.
func TestNoKeys(t *testing.T) {
	eachType(t, func(t *testing.T, made func(shards int) managed) {
		m := made(1)
		run(t, func(task *sched.Task) {
			lays(t, m, task, 7, someKeys()...)
			a := m.begin(task)
			for _, k := range someKeys() {
				gets(t, a, k, 0, false)
				puts(t, a, k, 9, false)
			}
			takes(t, a, true, 1)
			same(t, "Commit", a.Commit(), 2)
			same(t, "Stable", m.Stable(), 2)
		})
		keysAre(t, m, someKeys()...)
		lastIs(t, m, someKeys()[0], 7, true)
	})
}

// TestAlso is P12.5: what is refused ends no turn and takes nothing.
func TestAlso(t *testing.T) {
	eachType(t, func(t *testing.T, made func(shards int) managed) {
		m, k := made(3), keyIn(1, 3, 0)
		run(t, func(task *sched.Task) {
			a := m.begin(task, k)
			for _, x := range []struct {
				mutex int
				want  bool
			}{
				{least, false}, {-1, false}, {0, false}, {1, false}, {2, false}, {5, true}, {3, false}, {4, false}, {5, false}, {6, true},
				{5, false}, {100, true}, {2, false}, {99, false}, {most, true}, {most, false}, {101, false}, {3, false},
			} {
				before := task.Now()
				takes(t, a, x.want, x.mutex)
				same(t, "turns of Also", task.Now()-before, map[bool]int{true: 1}[x.want])
			}
			// What was refused isn't held, and what was taken is.
			for mutex, held := range map[int]bool{0: false, 2: false, 3: false, 4: false, 99: false, 101: false, 1: true, 5: true, 6: true, 100: true, most: true} {
				if got := task.Unlock(mutex); got != held {
					t.Errorf("%d is held: %v", mutex, got)
				}
			}
			same(t, "Commit", a.Commit(), 1)
			takes(t, a, false, 3, 200, most)
			b := m.begin(task, k)
			takes(t, b, true, 3, 4)
			b.GiveUp()
			takes(t, b, false, 5)
			for mutex := range 10 {
				if task.Unlock(mutex) {
					t.Errorf("%d is held behind the end", mutex)
				}
			}
			c := m.begin(task)
			takes(t, c, true, 3)
			c.GiveUp()
		})
	})
}

// TestAlsoWaits: a mutex that another one has is waited for; what was taken before stays held.
func TestAlsoWaits(t *testing.T) {
	eachType(t, func(t *testing.T, made func(shards int) managed) {
		m := made(2)
		answered := false
		first := func(task *sched.Task) {
			a := m.begin(task, keyIn(0, 2, 0))
			takes(t, a, true, 3)
			for {
				task.Yield()
			}
		}
		second := func(task *sched.Task) {
			b := m.begin(task, keyIn(1, 2, 0))
			takes(t, b, true, 2)
			b.Also(3)
			answered = true
		}
		got := at(m, ints(0, 0, 1, 1, 1), 5, first, second)
		if answered || got.trace.Waiting[1] != 3 || !slices.Equal(got.held, ints(0, 1, 2, 3)) {
			t.Errorf("answered: %v; it waits for %d; %v are held", answered, got.trace.Waiting[1], got.held)
		}
	})
}

// TestNumber is P12.6: another task sees the number from the turn on in which Commit was asked.
func TestNumber(t *testing.T) {
	eachType(t, func(t *testing.T, made func(shards int) managed) {
		m, k := made(3), key(0, 0)
		var a, b begun
		var seen []int
		first := func(task *sched.Task) {
			lays(t, m, task, 1, k)
			b = m.begin(task, k)
			a = b
			b.Commit()
			task.Yield()
			c := m.begin(task, k)
			b = c
			task.Yield()
			c.GiveUp()
			for {
				task.Yield()
			}
		}
		second := func(task *sched.Task) {
			for {
				if b != nil {
					seen = append(seen, b.Number())
				} else {
					seen = append(seen, -1)
				}
				task.Yield()
			}
		}
		var picks []int
		for range 12 {
			picks = append(picks, 0, 1)
		}
		at(m, picks, 0, first, second)
		// Three turns: taken, numbered, laid down. In the fourth this one is done, and the next one takes the mutex; in the fifth it gets its number.
		if want := ints(-1, -1, -1, -1, 2, 2, 2, 2, 0, 0, 0, 0); !slices.Equal(seen, want) {
			t.Errorf("the other one's numbers are %v, not %v", seen, want)
		}
		same(t, "Number when all is over", a.Number(), 2)
		same(t, "Number when it was given up", b.Number(), 0)
	})
}

// TestNumberWithoutBaton: who asks for the number may run beside the task itself, and sees it come.
func TestNumberWithoutBaton(t *testing.T) {
	m, k := tx.New[int](1), key(0, 0)
	begun, seen := make(chan *tx.Tx[int], 1), make(chan int)
	go func() {
		x, n := <-begun, 0
		for n == 0 {
			n = x.Number()
		}
		seen <- n
	}()
	run(t, func(task *sched.Task) {
		x := m.Begin(task, keys(k))
		begun <- x
		x.Commit()
	})
	same(t, "Number", <-seen, 1)
}

// TestAsked is P12.10: what a manager tells ahead of the first transaction and behind some.
func TestAsked(t *testing.T) {
	eachType(t, func(t *testing.T, made func(shards int) managed) {
		m := made(4)
		a, b, c := key(-1, 9), key(0, 3), key(2, least)
		told := func(stable, versions int, list ...api.Key) {
			t.Helper()
			same(t, "Stable", m.Stable(), stable)
			same(t, "Versions", m.Versions(), versions)
			keysAre(t, m, list...)
		}
		run(t, func(task *sched.Task) {
			told(0, 0)
			lastIs(t, m, a, 0, false)
			lays(t, m, task, 5, c, a)
			told(1, 2, a, c)
			lays(t, m, task, 0, b)
			told(2, 3, a, b, c)
			lastIs(t, m, b, 0, true)
			lays(t, m, task, 6, a)
			told(3, 4, a, b, c)
			lastIs(t, m, a, 6, true)
			lastIs(t, m, c, 5, true)
			m.begin(task, a, b).Commit()
			told(4, 4, a, b, c)
			m.begin(task, a, b).GiveUp()
			told(4, 4, a, b, c)
			lays(t, m, task, 7, a)
			told(5, 4, a, b, c)
		})
		told(5, 4, a, b, c)
		lastIs(t, m, a, 7, true)
		lastIs(t, m, key(9, 9), 0, false)
	})
}
