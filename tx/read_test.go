package tx_test

import (
	"slices"
	"testing"

	"custody/sched"
)

// TestRead is P12.9: of no keys, of keys that are there twice, of keys without values.
func TestRead(t *testing.T) {
	eachType(t, func(t *testing.T, made func(shards int) managed) {
		m, a, b, none := made(4), key(0, 1), key(-1, 5), key(7, 7)
		run(t, func(task *sched.Task) {
			reads(t, m, task, nil, 0)
			reads(t, m, task, keys(a, a), 0, 0, 0)
			lays(t, m, task, 5, a)
			lays(t, m, task, 6, b)
			reads(t, m, task, nil, 2)
			reads(t, m, task, keys(b, none, a, a, b), 2, 6, 0, 5, 5, 6)
			lays(t, m, task, 0, a)
			reads(t, m, task, keys(a, b), 3, 0, 6)
			m.begin(task).Commit()
			reads(t, m, task, keys(b, a), 4, 6, 0)
			x := m.begin(task, a)
			puts(t, x, a, 9, true)
			x.GiveUp()
			reads(t, m, task, keys(a), 4, 0)
		})
	})
}

// TestReadTakesNoMutex: it reads while another one holds all shards, and sees nothing of what that one has put.
func TestReadTakesNoMutex(t *testing.T) {
	eachType(t, func(t *testing.T, made func(shards int) managed) {
		m := made(3)
		a, b, c := keyIn(0, 3, 0), keyIn(1, 3, 0), keyIn(2, 3, 0)
		writer := func(task *sched.Task) {
			lays(t, m, task, 5, a, b, c)
			lays(t, m, task, 6, a, b, c)
			for {
				task.Yield()
			}
		}
		// The number 1 is done in the writer's turn 8, as it takes three mutexes, gets its number, and lays down in three shards; the number 2 in turn 15.
		for turns := range 18 {
			m = made(3)
			var n int
			var values []int
			reader := func(task *sched.Task) {
				before := task.Now()
				n, values = m.read(task, c, a, b, a)
				same(t, "turns of a Read", task.Now()-before, 4)
			}
			x := at(m, append(make([]int, turns), 1, 1, 1, 1, 1), 3, writer, reader)
			number, value := 0, 0
			if turns >= 8 {
				number, value = 1, 5
			}
			if turns >= 15 {
				number, value = 2, 6
			}
			if !x.trace.Ended[1] || n != number || !slices.Equal(values, slices.Repeat(ints(value), 4)) {
				t.Errorf("behind %d turns of the writer: Read is %d %v, ended: %v", turns, n, values, x.trace.Ended[1])
			}
		}
	})
}

// TestReadAtOneNumber: what others lay down while it goes on isn't seen, however often they do it, and isn't pruned as long as it may be read.
func TestReadAtOneNumber(t *testing.T) {
	eachType(t, func(t *testing.T, made func(shards int) managed) {
		m, a, b := made(2), keyIn(0, 2, 0), keyIn(1, 2, 0)
		var n int
		var values, versions []int
		writer := func(task *sched.Task) {
			for v := 1; v <= 6; v++ {
				lays(t, m, task, v, a, b)
				versions = append(versions, m.Versions())
			}
			task.Yield()
			lays(t, m, task, 7, a, b)
			versions = append(versions, m.Versions())
		}
		reader := func(task *sched.Task) {
			n, values = m.read(task, a, b, b, a)
		}
		// A transaction takes 5 turns, and ends in the one in which the next begins. The reader begins when the number 2 is done, goes on when 4 is, and 5 is; then it ends.
		picks := slices.Concat(make([]int, 11), ints(1), make([]int, 10), ints(1), make([]int, 5), ints(1, 1), make([]int, 5), ints(1), make([]int, 20))
		runBy(t, picks, writer, reader)
		if n != 2 || !slices.Equal(values, ints(2, 2, 2, 2)) {
			t.Errorf("Read is %d %v", n, values)
		}
		// From the number 2 on all are kept; with the next write behind the reader's end they are forgotten.
		if want := ints(2, 4, 4, 6, 8, 10, 4); !slices.Equal(versions, want) {
			t.Errorf("versions are %v, not %v", versions, want)
		}
	})
}

// TestReadsBesideOneAnother: the one of the lesser number keeps what it needs, when the other one has ended.
func TestReadsBesideOneAnother(t *testing.T) {
	eachType(t, func(t *testing.T, made func(shards int) managed) {
		m, k := made(1), key(3, 3)
		var got [][]int
		writer := func(task *sched.Task) {
			for v := 1; v <= 4; v++ {
				lays(t, m, task, v, k)
			}
		}
		reader := func(task *sched.Task) {
			n, values := m.read(task, k, k)
			got = append(got, append(ints(n), values...))
		}
		// A transaction takes 3 turns, and ends in the one in which the next begins.
		picks := slices.Concat(make([]int, 4), ints(1), make([]int, 3), ints(2, 2, 2), make([]int, 6), ints(0, 0, 0, 0))
		runBy(t, picks, writer, reader, reader)
		if len(got) != 2 || !slices.Equal(got[0], ints(2, 2, 2)) || !slices.Equal(got[1], ints(1, 1, 1)) {
			t.Errorf("Reads are %v", got)
		}
	})
}
