package guard_test

import (
	"testing"

	"custody/api"
	"custody/guard"
	"custody/proof"
)

// part is a field of a configuration, and its bounds by the chapter.
type part struct {
	name      string
	of        func(c *api.Config) *int
	low, high int
}

func parts() []part {
	return []part{
		{"Accounts", func(c *api.Config) *int { return &c.Accounts }, 1, 65536},
		{"Assets", func(c *api.Config) *int { return &c.Assets }, 1, 65536},
		{"Queue", func(c *api.Config) *int { return &c.Queue }, 0, 256},
		{"Shards", func(c *api.Config) *int { return &c.Shards }, 1, 64},
		{"Workers", func(c *api.Config) *int { return &c.Workers }, 0, 8},
	}
}

// fitting are configurations that fit: the least, the greatest, and some between.
func fitting() []api.Config {
	return []api.Config{
		{Accounts: 1, Assets: 1, Queue: 0, Shards: 1, Workers: 0},
		{Accounts: 65536, Assets: 65536, Queue: 256, Shards: 64, Workers: 8},
		{Accounts: 1, Assets: 65536, Queue: 0, Shards: 64, Workers: 0},
		{Accounts: 65536, Assets: 1, Queue: 256, Shards: 1, Workers: 8},
		{Accounts: 3, Assets: 2, Queue: 5, Shards: 4, Workers: 2},
	}
}

func TestFits(t *testing.T) {
	for _, c := range fitting() {
		if err := guard.Fits(c); err != nil {
			t.Errorf("Fits(%+v) is %v", c, err)
		}
	}
}

// Each field by itself, at its edges and beyond them.
func TestFitsEachField(t *testing.T) {
	for _, c := range fitting() {
		for _, p := range parts() {
			for _, n := range append(edges(), int64(p.low), int64(p.low-1), int64(p.high), int64(p.high+1), int64(p.high-1)) {
				x := c
				*p.of(&x) = int(n)
				no := api.OK
				if proof.Outside(int(n), p.low, p.high) {
					no = api.ErrArg
				}
				if err := guard.Fits(x); !proof.Tells(err, no) {
					t.Errorf("Fits(%+v) is %v: %s from %d to %d", x, err, p.name, p.low, p.high)
				}
			}
		}
	}
}

// Each field has its edges or one beyond them, all together.
func TestFitsAll(t *testing.T) {
	all := []api.Config{{}}
	for _, p := range parts() {
		var next []api.Config
		for _, c := range all {
			for _, n := range []int{p.low - 1, p.low, p.low + 1, p.high - 1, p.high, p.high + 1} {
				*p.of(&c) = n
				next = append(next, c)
			}
		}
		all = next
	}
	fit := 0
	for _, c := range all {
		no := api.OK
		for _, p := range parts() {
			if proof.Outside(*p.of(&c), p.low, p.high) {
				no = api.ErrArg
			}
		}
		if no == api.OK {
			fit++
		}
		if err := guard.Fits(c); !proof.Tells(err, no) {
			t.Errorf("Fits(%+v) is %v; want %v", c, err, no)
		}
	}
	if len(all) != 7776 || fit != 1024 {
		t.Errorf("%d of %d fit", fit, len(all))
	}
}

func TestFitsNothing(t *testing.T) {
	for _, c := range []api.Config{{}, {Accounts: -1, Assets: -1, Queue: -1, Shards: -1, Workers: -1}, {Accounts: most, Assets: most, Queue: most, Shards: most, Workers: most}, {Accounts: least, Assets: least, Queue: least, Shards: least, Workers: least}} {
		if err := guard.Fits(c); !proof.Tells(err, api.ErrArg) {
			t.Errorf("Fits(%+v) is %v", c, err)
		}
	}
}
