package tx_test

import (
	"runtime"
	"slices"
	"testing"
	"time"
	"weak"

	"custody/api"
	"custody/proof"
	"custody/sched"
	"custody/tx"
)

// TestKeysAreLeft is R4: the lists that Begin and Read are handed, and their spare room, stay as they are.
func TestKeysAreLeft(t *testing.T) {
	d := roll(1220)
	for range 200 {
		m, list := tx.New[int](1+d.Below(64)), proof.Room(draws(d, 9, someKeys()...), key(7, 7))
		old := slices.Clone(proof.Whole(list))
		run(t, func(task *sched.Task) {
			x := m.Begin(task, list)
			for _, k := range list {
				x.Put(k, 5)
			}
			x.Commit()
			m.Begin(task, list).GiveUp()
			m.Read(task, list)
		})
		if !slices.Equal(proof.Whole(list), old) {
			t.Fatalf("keys were %v, and are %v", old, proof.Whole(list))
		}
	}
}

// TestKeysAreCopied: a list that another task changes meanwhile is taken as it was handed in.
func TestKeysAreCopied(t *testing.T) {
	m := tx.New[int](3)
	a, b, c := keyIn(0, 3, 0), keyIn(1, 3, 0), keyIn(2, 3, 0)
	all := keys(a, b, c)
	list := slices.Clone(all)
	first := func(task *sched.Task) {
		x := m.Begin(task, list)
		for n, k := range all {
			if !x.Put(k, n+1) {
				t.Errorf("the shard of %v isn't held", k)
			}
		}
		x.Commit()
		copy(list, all)
		if n, got := m.Read(task, list); n != 1 || !slices.Equal(got, ints(1, 2, 3)) {
			t.Errorf("Read is %d %v", n, got)
		}
	}
	second := func(task *sched.Task) {
		for range 12 {
			proof.Overwrite(list, c)
			task.Yield()
		}
	}
	var picks []int
	for range 15 {
		picks = append(picks, 0, 1)
	}
	runBy(t, append(picks, zeros(20)...), first, second)
}

// TestReadsAreNewMemory: who asked may write over the answer and its spare room.
func TestReadsAreNewMemory(t *testing.T) {
	m, k := tx.New[int](2), key(1, 1)
	run(t, func(task *sched.Task) {
		x := m.Begin(task, keys(k))
		x.Put(k, 5)
		x.Commit()
		_, first := m.Read(task, keys(k, k))
		_, second := m.Read(task, keys(k, k))
		proof.Overwrite(first, 9)
		_, third := m.Read(task, keys(k, k))
		if want := ints(5, 5); !slices.Equal(second, want) || !slices.Equal(third, want) {
			t.Errorf("answers share memory: %v, %v", second, third)
		}
		list, other := m.Keys(), m.Keys()
		proof.Overwrite(list, key(9, 9))
		if !slices.Equal(other, keys(k)) || !slices.Equal(m.Keys(), keys(k)) {
			t.Errorf("Keys share memory: %v, %v", other, m.Keys())
		}
	})
}

// TestValuesAreHandedOn: a value that leads elsewhere leads there still, as Go assigns it.
func TestValuesAreHandedOn(t *testing.T) {
	m, k, l := tx.New[[]int](3), key(0, 0), ints(1, 2)
	run(t, func(task *sched.Task) {
		x := m.Begin(task, keys(k))
		x.Put(k, l)
		if v, ok := x.Get(k); !ok || &v[0] != &l[0] {
			t.Errorf("Get is %v %v", v, ok)
		}
		x.Commit()
		l[0] = 9
		if _, got := m.Read(task, keys(k)); &got[0][0] != &l[0] {
			t.Errorf("Read is %v", got)
		}
		x = m.Begin(task, keys(k))
		if v, ok := x.Get(k); !ok || &v[0] != &l[0] {
			t.Errorf("Get is %v %v", v, ok)
		}
		x.GiveUp()
	})
	if v, ok := m.Last(k); !ok || &v[0] != &l[0] || v[0] != 9 {
		t.Errorf("Last is %v %v", v, ok)
	}
}

// heavy is a value of which it can be seen whether it is still kept.
type heavy struct{ room [64]int }

// TestEndedKeepsNothing: an ended transaction keeps nothing of what was put; the store keeps what may still be read.
func TestEndedKeepsNothing(t *testing.T) {
	m, k := tx.New[*heavy](2), key(1, 1)
	var ended []*tx.Tx[*heavy]
	var values []weak.Pointer[heavy]
	run(t, func(task *sched.Task) {
		for n := range 10 {
			x := m.Begin(task, keys(k))
			for range 2 {
				v := &heavy{}
				x.Put(k, v)
				values = append(values, weak.Make(v))
			}
			if n%3 == 2 {
				x.GiveUp()
			} else {
				x.Commit()
			}
			ended = append(ended, x)
		}
	})
	runtime.GC()
	var kept []int
	for i, v := range values {
		if v.Value() != nil {
			kept = append(kept, i)
		}
	}
	// The last two that counted are those of the transactions 7 and 9, 8 having been given up.
	if !slices.Equal(kept, ints(15, 19)) {
		t.Errorf("of twenty values %v are kept", kept)
	}
	runtime.KeepAlive(m)
	runtime.KeepAlive(ended)
}

// TestManyTransactions: what is kept doesn't grow with the number of transactions.
func TestManyTransactions(t *testing.T) {
	m := tx.New[int](4)
	r := sched.New(zeros(1 << 20))
	const count = 50000
	for n := range 2 {
		k := keyIn(n, 4, 0)
		r.Go(func(task *sched.Task) {
			for v := range count {
				x := m.Begin(task, keys(k))
				x.Put(k, v)
				x.Commit()
			}
		})
	}
	if x := r.Run(); x.Cut || m.Stable() != 2*count || m.Versions() != 4 {
		t.Errorf("cut: %v, Stable %d, %d versions", x.Cut, m.Stable(), m.Versions())
	}
}

// Play

// roomy is a copy of tasks, each list of which has spare room that is filled with junk.
func roomy(tasks [][]api.Txn) [][]api.Txn {
	junk := api.Txn{Keys: ints(77), Do: acts(wrongKind(77)), Read: true}
	var out [][]api.Txn
	for _, l := range tasks {
		var row []api.Txn
		for _, x := range l {
			row = append(row, api.Txn{Keys: proof.Room(x.Keys, 77), Do: proof.Room(x.Do, wrongKind(77)), Read: x.Read})
		}
		out = append(out, proof.Room(row, junk))
	}
	return proof.Room(out, txns(junk))
}

// sameWhole tells whether two lists of tasks are the same, their spare room too.
func sameWhole(a, b [][]api.Txn) bool {
	return slices.EqualFunc(proof.Whole(a), proof.Whole(b), func(a, b []api.Txn) bool {
		return slices.EqualFunc(proof.Whole(a), proof.Whole(b), func(a, b api.Txn) bool {
			return slices.Equal(proof.Whole(a.Keys), proof.Whole(b.Keys)) && slices.Equal(proof.Whole(a.Do), proof.Whole(b.Do)) && a.Read == b.Read
		})
	})
}

func TestPlayLeavesItsArguments(t *testing.T) {
	d := roll(1221)
	for range 300 {
		drawn := drawPlay(d, 8)
		tasks, old := roomy(drawn), roomy(drawn)
		picks := proof.Room(d.Picks(d.Below(bound(drawn)+1)), 77)
		before := slices.Clone(proof.Whole(picks))
		if _, err := tx.Play(tasks, 8, 1+d.Below(9), picks); err != nil {
			t.Fatal(err)
		}
		if !sameWhole(tasks, old) || !slices.Equal(proof.Whole(picks), before) {
			t.Fatalf("tasks were %v, and are %v; picks were %v, and are %v", old, tasks, before, proof.Whole(picks))
		}
	}
}

// overrun fills the spare room of all lists, as one who was given them may. If two of them shared memory, one would be changed.
func overrun(x api.Played) {
	proof.Overwrite(x.Dones[len(x.Dones):], api.Done{Task: 77, Reads: numbers(77)})
	proof.Overwrite(x.Values[len(x.Values):], 77)
	for n := range x.Dones {
		proof.Overwrite(x.Dones[n].Reads[len(x.Dones[n].Reads):], int64(n))
	}
}

func TestPlayedIsNewMemory(t *testing.T) {
	d := roll(1222)
	for range 300 {
		tasks := drawPlay(d, 8)
		shards := 1 + d.Below(9)
		picks := d.Picks(proof.Of(d, bound(tasks), d.Below(bound(tasks)+1)))
		want, _ := reckonPlay(tasks, 8, shards, picks)
		first, err := tx.Play(tasks, 8, shards, picks)
		second, _ := tx.Play(tasks, 8, shards, picks)
		overrun(first)
		if err != nil || !samePlayed(first, want) {
			t.Fatalf("lists share memory: %+v, not %+v", first, want)
		}
		for _, x := range first.Dones {
			proof.Overwrite(x.Reads, 77)
		}
		proof.Overwrite(first.Dones, api.Done{Task: 77})
		proof.Overwrite(first.Values, 77)
		third, _ := tx.Play(tasks, 8, shards, picks)
		if !samePlayed(second, want) || !samePlayed(third, want) {
			t.Fatalf("answers share memory: %+v, %+v, not %+v", second, third, want)
		}
	}
}

// TestEmptyLists is R3: nil and an empty list mean the same.
func TestEmptyLists(t *testing.T) {
	d := roll(1223)
	for range 200 {
		tasks := drawPlay(d, 4)
		other := make([][]api.Txn, 0)
		for _, l := range tasks {
			row := make([]api.Txn, 0)
			for _, x := range l {
				row = append(row, api.Txn{Keys: append([]int{}, x.Keys...), Do: append([]api.Act{}, x.Do...), Read: x.Read})
			}
			other = append(other, row)
		}
		picks := d.Picks(d.Below(bound(tasks) + 1))
		a, err := tx.Play(tasks, 4, 3, picks)
		b, again := tx.Play(other, 4, 3, append([]int{}, picks...))
		if err != nil || again != nil || !samePlayed(a, b) {
			t.Fatalf("tasks %v: %+v %v, and %+v %v", tasks, a, err, b, again)
		}
	}
}

// TestNoGoroutinesAreLeft: also where a run is cut.
func TestNoGoroutinesAreLeft(t *testing.T) {
	base := runtime.NumGoroutine()
	for _, x := range slices.Concat(examples(), alone(), beside()) {
		if _, err := tx.Play(x.tasks, x.registers, x.shards, x.picks); err != nil {
			t.Error(err)
		}
	}
	// One that has answered may need a moment to be gone.
	for range 1000 {
		if runtime.NumGoroutine() <= base {
			return
		}
		time.Sleep(time.Millisecond)
	}
	t.Errorf("there are %d goroutines left", runtime.NumGoroutine()-base)
}
