package tx_test

import (
	"math"
	"slices"
	"testing"

	"custody/api"
	"custody/proof"
	"custody/sched"
	"custody/store"
	"custody/tx"
)

// managed is a manager of values of any type, told by numbers: each value stands for one, the zero value for 0.
type managed interface {
	begin(t *sched.Task, keys ...api.Key) begun
	read(t *sched.Task, keys ...api.Key) (int, []int)
	last(k api.Key) (int, bool)
	Stable() int
	Keys() []api.Key
	Versions() int
}

// begun is a transaction of such a manager.
type begun interface {
	get(k api.Key) (int, bool)
	put(k api.Key, v int) bool
	Also(mutex int) bool
	Number() int
	Commit() int
	GiveUp()
}

// told is a manager of a type of values, and what each of them stands for.
type told[V any] struct {
	*tx.Manager[V]
	values proof.Values[V]
}

func (m told[V]) begin(t *sched.Task, keys ...api.Key) begun {
	return toldTx[V]{m.Begin(t, keys), m.values}
}

func (m told[V]) read(t *sched.Task, keys ...api.Key) (int, []int) {
	n, list := m.Read(t, keys)
	var out []int
	for _, v := range list {
		out = append(out, m.values.Number(v))
	}
	return n, out
}

func (m told[V]) last(k api.Key) (int, bool) {
	v, ok := m.Last(k)
	return m.values.Number(v), ok
}

// toldTx is a transaction of a type of values, and what each of them stands for.
type toldTx[V any] struct {
	*tx.Tx[V]
	values proof.Values[V]
}

func (x toldTx[V]) get(k api.Key) (int, bool) {
	v, ok := x.Get(k)
	return x.values.Number(v), ok
}

func (x toldTx[V]) put(k api.Key, v int) bool { return x.Put(k, x.values.Of(v)) }

// managing makes managers of such values.
func managing[V any](values proof.Values[V]) func(shards int) managed {
	return func(shards int) managed { return told[V]{tx.New[V](shards), values} }
}

// eachType runs a test with managers of each type of values.
func eachType(t *testing.T, test func(t *testing.T, made func(shards int) managed)) {
	for _, x := range []struct {
		name string
		made func(shards int) managed
	}{
		{"texts", managing(proof.Texts())},
		{"numbers", managing(proof.Numbers())},
		{"short numbers", managing(proof.Shorts())},
		{"structs", managing(proof.Things())},
		{"pointers", managing(proof.Pointers())},
		{"interfaces", managing(proof.Failures())},
		{"lists", managing(proof.Lists())},
	} {
		t.Run(x.name, func(t *testing.T) { test(t, x.made) })
	}
}

const (
	most  = math.MaxInt
	least = math.MinInt
)

func ints(l ...int) []int { return l }

func roll(seed uint64) *proof.Dice { return new(proof.Dice(seed)) }

func key(account, asset int) api.Key { return api.Key{Account: account, Asset: asset} }

func keys(l ...api.Key) []api.Key { return l }

// keyIn is a key of one of so many shards: the first one for 0, then the next.
func keyIn(shard, shards, nth int) api.Key {
	for asset := 0; ; asset++ {
		if k := key(5, asset); store.Shard(k, shards) == shard {
			if nth == 0 {
				return k
			}
			nth--
		}
	}
}

// run runs tasks, each till it can't go on, by rising numbers.
func run(t *testing.T, tasks ...func(t *sched.Task)) api.Trace {
	t.Helper()
	return runBy(t, make([]int, 1000), tasks...)
}

// runBy runs tasks by picks that are enough for all of them.
func runBy(t *testing.T, picks []int, tasks ...func(t *sched.Task)) api.Trace {
	t.Helper()
	r := sched.New(picks)
	for _, f := range tasks {
		r.Go(f)
	}
	x := r.Run()
	if x.Cut || slices.Contains(x.Ended, false) {
		t.Errorf("not all tasks have ended: %v", x)
	}
	return x
}

// moment is what there is to see at a moment of a run.
type moment struct {
	held             []int // the mutexes, of those that are looked at
	trace            api.Trace
	stable, versions int
}

// at runs tasks by picks, which are places among them, up to the last pick; then it is looked which of the mutexes, from 0 on, are held.
func at(m managed, picks []int, mutexes int, tasks ...func(t *sched.Task)) moment {
	r := sched.New(append(slices.Clone(picks), slices.Repeat(ints(-1), 2*mutexes)...))
	for _, f := range tasks {
		r.Go(f)
	}
	// This one has the turns that the lookers behind it don't need.
	r.Go(func(t *sched.Task) {
		for {
			t.Yield()
		}
	})
	for mutex := range mutexes {
		r.Go(func(t *sched.Task) {
			t.Lock(mutex)
			t.Park(1)
		})
	}
	x := r.Run()
	out := moment{trace: x, stable: m.Stable(), versions: m.Versions()}
	for mutex := range mutexes {
		if x.Waiting[len(tasks)+1+mutex] == mutex {
			out.held = append(out.held, mutex)
		}
	}
	return out
}

// same tells that two numbers are the same.
func same(t *testing.T, what string, got, want int) {
	t.Helper()
	if got != want {
		t.Errorf("%s: %d, not %d", what, got, want)
	}
}

// gets tells what Get answers.
func gets(t *testing.T, x begun, k api.Key, v int, there bool) {
	t.Helper()
	if got, ok := x.get(k); got != v || ok != there {
		t.Errorf("Get(%v) is %d %v, not %d %v", k, got, ok, v, there)
	}
}

// puts tells what Put answers.
func puts(t *testing.T, x begun, k api.Key, v int, want bool) {
	t.Helper()
	if got := x.put(k, v); got != want {
		t.Errorf("Put(%v) is %v", k, got)
	}
}

// takes tells what Also answers to each of these mutexes.
func takes(t *testing.T, x begun, want bool, mutexes ...int) {
	t.Helper()
	for _, mutex := range mutexes {
		if got := x.Also(mutex); got != want {
			t.Errorf("Also(%d) is %v", mutex, got)
		}
	}
}

// lastIs tells what Last answers.
func lastIs(t *testing.T, m managed, k api.Key, v int, there bool) {
	t.Helper()
	if got, ok := m.last(k); got != v || ok != there {
		t.Errorf("Last(%v) is %d %v, not %d %v", k, got, ok, v, there)
	}
}

// keysAre tells what Keys answers.
func keysAre(t *testing.T, m managed, want ...api.Key) {
	t.Helper()
	if got := m.Keys(); !slices.Equal(got, want) {
		t.Errorf("Keys are %v, not %v", got, want)
	}
}

// reads tells what Read answers, and that it takes a turn for each key.
func reads(t *testing.T, m managed, task *sched.Task, list []api.Key, number int, values ...int) {
	t.Helper()
	before := task.Now()
	n, got := m.read(task, list...)
	if n != number || !slices.Equal(got, values) {
		t.Errorf("Read of %v is %d %v, not %d %v", list, n, got, number, values)
	}
	same(t, "turns of a Read", task.Now()-before, len(list))
}

// lays is a transaction that puts one value under each of these keys, and commits: its number.
func lays(t *testing.T, m managed, task *sched.Task, v int, list ...api.Key) int {
	t.Helper()
	x := m.begin(task, list...)
	for _, k := range list {
		puts(t, x, k, v, true)
	}
	return x.Commit()
}
