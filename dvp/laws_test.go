package dvp_test

import (
	"errors"
	"math/big"
	"slices"
	"testing"

	"custody/api"
	"custody/dvp"
	"custody/proof"
)

// TestManyOperations holds operations in many views against the reckoning; a refusal of each number is among them.
func TestManyOperations(t *testing.T) {
	d := newDice(5)
	errs, statuses := map[api.Errno]int{}, map[[2]int]int{}
	for range 50000 {
		c := d.cells()
		o := d.op(c)
		a, _ := applies(t, c, o, d.Below(2) == 0)
		errs[a.Err]++
		if a.Err == api.OK {
			statuses[[2]int{o.Code, a.Status}]++
		}
	}
	for _, e := range []api.Errno{api.OK, api.ErrArg, api.ErrShort, api.ErrMany, api.ErrOver, api.ErrLost, api.ErrTwice, api.ErrCode, api.ErrAccount, api.ErrAsset, api.ErrAmount, api.ErrSame, api.ErrCover, api.ErrMark, api.ErrFull, api.ErrFinal} {
		if errs[e] < 5 {
			t.Errorf("%v was answered %d times", e, errs[e])
		}
	}
	for _, s := range [][2]int{{1, 0}, {2, 0}, {3, 0}, {4, 0}, {5, api.Pending}, {5, api.Settled}, {6, api.Cancelled}, {7, api.Pending}, {7, api.Settled}, {7, api.Cancelled}} {
		if statuses[s] < 100 {
			t.Errorf("the code %d was answered %d only %d times", s[0], s[1], statuses[s])
		}
	}
}

// TestManyInARow: a view is used on and on; what one call leaves the next one finds.
func TestManyInARow(t *testing.T) {
	d := newDice(6)
	settled := 0
	for range 600 {
		c := d.cells()
		for range 40 {
			if _, c = applies(t, c, d.op(c), d.Below(3) > 0); d.Below(3) == 0 {
				var ok bool
				if ok, c = settles(t, c, 1+d.Below(4)); ok {
					settled++
				}
			}
		}
	}
	if settled < 100 {
		t.Errorf("only %d settled", settled)
	}
}

// total is what all accounts together have of an asset.
func total(c cells, asset int) *big.Int {
	sum := new(big.Int)
	for k, x := range c {
		if k.Account == -1 || k.Asset != asset {
			continue
		}
		sum.Add(sum, big.NewInt(x.Position.Avail))
		for _, m := range x.Position.Marks {
			sum.Add(sum, big.NewInt(m.Qty))
		}
	}
	return sum
}

// P17.9: totals change by deposits and withdrawals alone.
func TestConservation(t *testing.T) {
	d := newDice(7)
	seen := map[int]int{}
	for range 40000 {
		c := d.cells()
		v, o := open(c), d.op(c)
		var by int64 // what the operation's own asset grows by
		if d.Below(4) == 0 {
			if _, ok := dvp.Settle(v, o.Id); ok {
				seen[0]++
			}
		} else if a, _ := dvp.Apply(v, o, true); a.Err == api.OK {
			seen[o.Code]++
			by = map[int]int64{api.OpDeposit: o.Qty, api.OpWithdraw: -o.Qty}[o.Code]
		}
		for _, asset := range []int{0, 1, o.Asset} {
			want := total(c, asset)
			if asset == o.Asset {
				want.Add(want, big.NewInt(by))
			}
			if got := total(v.cells, asset); got.Cmp(want) != 0 {
				t.Fatalf("%+v turns %+v to %+v: of %d there are %v; want %v", o, c, v.cells, asset, got, want)
			}
		}
	}
	for code := range 8 {
		if seen[code] < 200 {
			t.Errorf("only %d of the code %d were done", seen[code], code)
		}
	}
}

// beside are cells that are the same under keys, and others elsewhere.
func (d *dice) beside(c cells, l []api.Key) cells {
	out := d.cells()
	for _, k := range l {
		out[k] = c.copied()[k]
	}
	return out
}

// agree tells whether two views hold the same under keys.
func agree(a, b cells, l []api.Key) bool {
	return !slices.ContainsFunc(l, func(k api.Key) bool { return !proof.SameCell(a[k], b[k]) })
}

// P17.10: what stands under other keys doesn't count.
func TestNothingElseCounts(t *testing.T) {
	d := newDice(8)
	for range 10000 {
		c := d.cells()
		o := d.op(c)
		room := d.Below(2) == 0
		l := opKeys(o)
		v, w := open(c), open(d.beside(c, l))
		a, changed := dvp.Apply(v, o, room)
		b, other := dvp.Apply(w, o, room)
		if !proof.SameAnswer(a, b) || !slices.Equal(changed, other) || !agree(v.cells, w.cells, l) {
			t.Fatalf("Apply(%+v) is %+v, %v, and beside others %+v, %v", o, a, changed, b, other)
		}

		l = legKeys(o.Id, c[key(-1, o.Id)].Record.Legs)
		v, w = open(c), open(d.beside(c, l))
		changed, ok := dvp.Settle(v, o.Id)
		other, too := dvp.Settle(w, o.Id)
		if ok != too || !slices.Equal(changed, other) || !agree(v.cells, w.cells, l) {
			t.Fatalf("Settle(%d) is %v, %v, and beside others %v, %v", o.Id, changed, ok, other, too)
		}

		l = legKeys(1, o.Legs)[1:]
		v, w = open(c), open(d.beside(c, l))
		if a, b := dvp.Covered(v, o.Legs), dvp.Covered(w, o.Legs); !errors.Is(a, numberOf(b)) && a != b {
			t.Fatalf("Covered(%+v) is %v, and beside others %v", o.Legs, a, b)
		}
		if a, b := dvp.Move(v, o.Legs), dvp.Move(w, o.Legs); !errors.Is(a, numberOf(b)) && a != b || !agree(v.cells, w.cells, l) {
			t.Fatalf("Move(%+v) is %v, and beside others %v", o.Legs, a, b)
		}
	}
}

// numberOf is the number that an error wraps.
func numberOf(err error) api.Errno {
	var no api.Errno
	errors.As(err, &no)
	return no
}

// P17.11: Covered and Move tell the same; what is pending settles as soon as it is covered, and not ahead of that.
func TestCoveredSettles(t *testing.T) {
	d := newDice(9)
	seen := map[bool]int{}
	for range 15000 {
		c := d.cells()
		legs := d.Legs(3)
		covered, moved := dvp.Covered(open(c), legs), dvp.Move(open(c), legs)
		if !proof.Tells(moved, numberOf(covered)) {
			t.Fatalf("Covered(%+v) is %v, and Move %v", legs, covered, moved)
		}
		if _, ok := dvp.Settle(open(c.records(4, api.Pending, legs...)), 4); ok != (covered == nil) {
			t.Fatalf("%+v are covered: %v; and they settle: %v", legs, covered, ok)
		}
		v := open(c)
		a, _ := dvp.Apply(v, submit(4, legs...), true)
		if _, ok := dvp.Settle(v, 4); ok {
			t.Fatalf("Submit of %+v is answered %+v, and it settles at once", legs, a)
		}
		if (a.Status == api.Settled) != (covered == nil) || (a.Status == api.Pending) != errors.Is(covered, api.ErrCover) || (a.Err == api.ErrOver) != errors.Is(covered, api.ErrOver) {
			t.Fatalf("Submit of %+v is answered %+v, and Covered is %v", legs, a, covered)
		}
		seen[covered == nil]++
	}
	if seen[true] < 1500 || seen[false] < 1500 {
		t.Errorf("%d were covered, %d not", seen[true], seen[false])
	}
}

// P17.11: what Settle refuses it refuses again, as long as nothing changes under the instruction's keys.
func TestRefusedAgain(t *testing.T) {
	d := newDice(10)
	again, later := 0, 0
	for range 4000 {
		legs := d.Legs(2)
		c := d.cells().records(4, api.Pending, legs...)
		v := open(c)
		if _, ok := dvp.Settle(v, 4); ok {
			continue
		}
		mine := legKeys(4, legs)
		for range 6 {
			_, changed := dvp.Apply(v, d.op(v.cells), true)
			if v.cells[key(-1, 4)].Record.Status != api.Pending || slices.ContainsFunc(changed, func(k api.Key) bool { return slices.Contains(mine, k) }) {
				if _, ok := dvp.Settle(v, 4); ok {
					later++
				}
				break
			}
			again++
			if _, ok := dvp.Settle(v, 4); ok {
				t.Fatalf("%+v of %+v were refused, and settle though none of their keys changed", legs, c)
			}
		}
	}
	if again < 1000 || later < 50 {
		t.Errorf("%d were asked again, %d settled later", again, later)
	}
}
