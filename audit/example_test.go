package audit_test

import (
	"slices"
	"testing"

	"custody/api"
	"custody/audit"
)

// small is the chapter's configuration: two accounts, one asset, room for one, no workers.
func small() api.Config { return api.Config{Accounts: 2, Assets: 1, Queue: 1, Shards: 1} }

// pair are the chapter's calls: a deposit, and a snapshot beside it.
func pair(number, invoked, returned int, p api.Position) []api.Call {
	return each(call(deposit(0, 0, 5), 1, 4, 1, api.Answer{}), call(snapshot(0, 0), invoked, returned, number, shows(p)))
}

// TestChapterExamples are the chapter's examples.
func TestChapterExamples(t *testing.T) {
	for _, x := range []struct {
		name  string
		calls []api.Call
		order []int
		no    api.Errno
		at    int
		found bool
	}{
		{"0, nothing", pair(0, 2, 3, pos(0)), []int{1, 0}, api.OK, nowhere, true},
		{"1, 5 free", pair(1, 2, 3, pos(5)), []int{0, 1}, api.OK, nowhere, true},
		{"0, 5 free", pair(0, 2, 3, pos(5)), []int{1, 0}, api.ErrForm, 1, true},
		{"1, 4 free", pair(1, 2, 3, pos(4)), []int{0, 1}, api.ErrForm, 1, false},
		{"0, nothing, but behind it", pair(0, 5, 6, pos(0)), []int{1, 0}, api.ErrLoop, 1, false},
		{"2, 5 free", pair(2, 2, 3, pos(5)), []int{0, 1}, api.ErrLost, nowhere, true},
	} {
		r := api.Result{Calls: x.calls}
		if got := audit.Order(r); !slices.Equal(got, x.order) {
			t.Errorf("%s: the order is %v, not %v", x.name, got, x.order)
		}
		judge(t, x.name, small(), r, x.no, x.at)
		seek(t, x.name, small(), x.calls, x.found)
	}
}
