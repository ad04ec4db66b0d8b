package tx_test

import (
	"slices"
	"testing"

	"custody/api"
	"custody/proof"
	"custody/tx"
)

// refused tells whether Play answers this error, and nothing beside it.
func refused(t *testing.T, name string, tasks [][]api.Txn, registers, shards int, picks []int, no api.Errno) {
	t.Helper()
	x, err := tx.Play(tasks, registers, shards, picks)
	if !proof.Tells(err, no) || !samePlayed(x, api.Played{}) {
		t.Errorf("%s: %v, not %v; beside it %+v", name, err, no, x)
	}
}

// taken tells whether Play answers no error.
func taken(t *testing.T, name string, tasks [][]api.Txn, registers, shards int, picks []int) {
	t.Helper()
	if _, err := tx.Play(tasks, registers, shards, picks); err != nil {
		t.Errorf("%s: %v", name, err)
	}
}

// wrongKind is an act that there isn't.
func wrongKind(kind int) api.Act { return api.Act{Kind: kind} }

// among are tasks of which the last transaction of the last one is this one.
func among(x api.Txn) [][]api.Txn {
	return tasksOf(txns(lock(ints(0), readAct(0))), nil, txns(readOf(0), lock(nil), x))
}

func TestRefusedNumbers(t *testing.T) {
	for _, n := range ints(least, -1, 0, 65, 66, most) {
		refused(t, "registers", nil, n, 1, nil, api.ErrArg)
		refused(t, "shards", nil, 1, n, nil, api.ErrArg)
	}
	for _, n := range ints(1, 2, 63, 64) {
		taken(t, "registers", nil, n, 1, nil)
		taken(t, "shards", nil, 1, n, nil)
		taken(t, "both", among(lock(ints(0))), n, n, zeros(50))
	}
}

func TestRefusedLists(t *testing.T) {
	long := func(n int) []api.Txn { return make([]api.Txn, n) }
	refused(t, "tasks", make([][]api.Txn, api.MaxTasks+1), 1, 1, nil, api.ErrMany)
	refused(t, "picks", nil, 1, 1, zeros(api.MaxPicks+1), api.ErrMany)
	refused(t, "transactions", tasksOf(long(api.MaxOps+1)), 1, 1, nil, api.ErrMany)
	refused(t, "transactions of the last task", tasksOf(nil, long(api.MaxOps), long(api.MaxOps+1)), 1, 1, nil, api.ErrMany)
	refused(t, "keys", among(lock(zeros(api.MaxPairs+1))), 1, 1, nil, api.ErrMany)
	refused(t, "keys of a Read", among(readOf(zeros(api.MaxPairs+1)...)), 1, 1, nil, api.ErrMany)
	refused(t, "acts", among(lock(nil, make([]api.Act, api.MaxOps+1)...)), 1, 1, nil, api.ErrMany)
	refused(t, "acts of a Read", among(api.Txn{Read: true, Do: make([]api.Act, api.MaxOps+1)}), 1, 1, nil, api.ErrMany)
	refused(t, "keys of the first one", tasksOf(txns(lock(zeros(65)), lock(nil)), nil), 1, 1, nil, api.ErrMany)

	taken(t, "tasks", make([][]api.Txn, api.MaxTasks), 1, 1, nil)
	taken(t, "picks", nil, 1, 1, zeros(api.MaxPicks))
	taken(t, "transactions", tasksOf(nil, long(api.MaxOps)), 1, 1, nil)
	taken(t, "keys", among(lock(zeros(api.MaxPairs))), 1, 1, nil)
	taken(t, "keys of a Read", among(readOf(zeros(api.MaxPairs)...)), 1, 1, nil)
	taken(t, "acts", among(lock(nil, make([]api.Act, api.MaxOps)...)), 1, 1, nil)
	taken(t, "acts of a Read", among(api.Txn{Read: true, Do: make([]api.Act, api.MaxOps)}), 1, 1, nil)
}

func TestRefusedTransactions(t *testing.T) {
	for _, r := range ints(least, -1, 7, 8, 63, most) {
		refused(t, "a key", among(lock(ints(0, 6, r))), 7, 1, zeros(50), api.ErrArg)
		refused(t, "a key of a Read", among(readOf(r, 0)), 7, 1, zeros(50), api.ErrArg)
	}
	for _, r := range ints(0, 1, 6) {
		taken(t, "a key", among(lock(ints(r))), 7, 1, zeros(50))
		taken(t, "a key of a Read", among(readOf(r)), 7, 1, zeros(50))
	}
	for _, kind := range ints(least, -1, 4, 5, most) {
		refused(t, "a kind", among(lock(ints(0), readAct(0), wrongKind(kind))), 1, 1, zeros(50), api.ErrCode)
		refused(t, "a kind behind one that gives up", among(lock(ints(0), giveUp(), wrongKind(kind))), 1, 1, zeros(50), api.ErrCode)
		refused(t, "a kind of a Read", among(api.Txn{Read: true, Do: acts(wrongKind(kind), readAct(0))}), 1, 1, zeros(50), api.ErrCode)
	}
	for kind := range 4 {
		taken(t, "a kind", among(lock(ints(0), wrongKind(kind))), 1, 1, zeros(50))
		taken(t, "a kind of a Read", among(api.Txn{Read: true, Do: acts(wrongKind(kind))}), 1, 1, zeros(50))
	}
	for _, r := range ints(least, -1, 1, 64, most) {
		taken(t, "any register of an act", among(lock(ints(0), add(r, 1), readAct(r))), 1, 1, zeros(50))
	}
}

// TestRefusedInOrder: where several errors apply, the first one that the chapter names is told.
func TestRefusedInOrder(t *testing.T) {
	many := make([][]api.Txn, api.MaxTasks+1)
	badKey, badKind := lock(ints(9)), lock(nil, wrongKind(4))
	both := lock(ints(0, 9), wrongKind(4))
	refused(t, "registers ahead of tasks", many, 0, 1, nil, api.ErrArg)
	refused(t, "registers ahead of picks", nil, 65, 1, zeros(api.MaxPicks+1), api.ErrArg)
	refused(t, "registers ahead of transactions", tasksOf(make([]api.Txn, api.MaxOps+1)), 0, 1, nil, api.ErrArg)
	refused(t, "registers ahead of kinds", tasksOf(txns(badKind)), 0, 1, nil, api.ErrArg)
	refused(t, "shards ahead of tasks", many, 1, 0, nil, api.ErrArg)
	refused(t, "shards ahead of picks", nil, 1, 65, zeros(api.MaxPicks+1), api.ErrArg)
	refused(t, "shards ahead of keys that are many", tasksOf(txns(lock(zeros(65)))), 1, 0, nil, api.ErrArg)
	refused(t, "shards ahead of kinds", tasksOf(txns(badKind)), 1, 0, nil, api.ErrArg)
	for _, bad := range txns(badKey, badKind, both) {
		tasks := slices.Clone(many)
		tasks[0] = txns(bad)
		refused(t, "tasks ahead of a transaction", tasks, 1, 1, nil, api.ErrMany)
		refused(t, "picks ahead of a transaction", tasksOf(txns(bad)), 1, 1, zeros(api.MaxPicks+1), api.ErrMany)
		refused(t, "transactions ahead of one", tasksOf(txns(bad), make([]api.Txn, api.MaxOps+1)), 1, 1, nil, api.ErrMany)
		refused(t, "keys that are many ahead of a transaction", tasksOf(txns(bad), txns(lock(zeros(65)))), 1, 1, nil, api.ErrMany)
		refused(t, "acts that are many ahead of a transaction", tasksOf(txns(bad, lock(nil, make([]api.Act, 257)...))), 1, 1, nil, api.ErrMany)
	}
	refused(t, "a key ahead of a kind", tasksOf(txns(both)), 1, 1, nil, api.ErrArg)
	refused(t, "a key ahead of a kind of a Read", tasksOf(txns(api.Txn{Keys: ints(1), Read: true, Do: acts(wrongKind(4))})), 1, 1, nil, api.ErrArg)
	refused(t, "the kind of a transaction ahead of the next one's key", tasksOf(txns(badKind, badKey)), 1, 1, nil, api.ErrCode)
	refused(t, "the key of a transaction ahead of the next one's kind", tasksOf(txns(badKey, badKind)), 1, 1, nil, api.ErrArg)
	refused(t, "a kind of a task ahead of the next one's key", tasksOf(nil, txns(lock(nil), badKind), txns(badKey)), 1, 1, nil, api.ErrCode)
	refused(t, "a key of a task ahead of the next one's kind", tasksOf(nil, txns(lock(nil), badKey), txns(badKind)), 1, 1, nil, api.ErrArg)
}

// TestAllLimits: as much as may be of all at once.
func TestAllLimits(t *testing.T) {
	all := zeros(api.MaxPairs)
	for r := range all {
		all[r] = r
	}
	do := slices.Repeat(acts(add(0, 1), readAct(0), add(63, -1), readAct(63)), api.MaxOps/4)
	l := slices.Repeat(txns(api.Txn{Keys: all, Do: do}), api.MaxOps)
	l[7], l[200] = readOf(all...), api.Txn{Keys: all, Do: do, Read: true}
	tasks := slices.Repeat(tasksOf(l), api.MaxTasks)
	x, err := tx.Play(tasks, api.MaxPairs, 1, zeros(api.MaxPicks))
	if count := api.MaxTasks * api.MaxOps; err != nil || !x.Quiet || len(x.Dones) != count || len(x.Values) != api.MaxPairs {
		t.Fatalf("%v, quiet: %v, %d transactions, %d registers", err, x.Quiet, len(x.Dones), len(x.Values))
	}
	want := int64(api.MaxTasks * (api.MaxOps - 2) * api.MaxOps / 4)
	if x.Values[0] != want || x.Values[63] != -want {
		t.Errorf("registers are %v, not %d", x.Values, want)
	}
	// With as many shards as may be the picks don't reach.
	x, err = tx.Play(tasks, api.MaxPairs, api.MaxShards, zeros(api.MaxPicks))
	if err != nil || x.Quiet || x.Turns != api.MaxPicks {
		t.Errorf("%v, quiet: %v, %d turns", err, x.Quiet, x.Turns)
	}
}
