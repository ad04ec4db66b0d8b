package guard_test

import (
	"slices"
	"testing"

	"custody/api"
	"custody/guard"
	"custody/proof"
)

// Many rows and operations are answered as the reckoning says, and every answer comes up.
func TestMany(t *testing.T) {
	d := newDice(1)
	read, told := map[api.Errno]int{}, map[api.Errno]int{}
	for range 60000 {
		_, no := decodes(t, d.row())
		read[no]++
		c := d.config()
		o := d.op(c)
		encodes(t, o)
		told[checks(t, c, o)]++
	}
	for _, no := range []api.Errno{api.OK, api.ErrShort, api.ErrCode, api.ErrLong} {
		if read[no] < 500 {
			t.Errorf("%v was told of %d rows", no, read[no])
		}
	}
	for _, no := range []api.Errno{api.OK, api.ErrAccount, api.ErrAsset, api.ErrAmount, api.ErrMark, api.ErrArg, api.ErrShort, api.ErrMany, api.ErrSame, api.ErrCode} {
		if told[no] < 100 {
			t.Errorf("%v was told of %d operations", no, told[no])
		}
	}
}

// P16.5: Decode undoes Encode: what is left are an operation's own fields.
func TestDecodeUndoesEncode(t *testing.T) {
	d := newDice(2)
	for range 30000 {
		o := d.op(d.config())
		row, err := guard.Encode(o)
		if err != nil {
			continue
		}
		if back, err := guard.Decode(row); err != nil || !same(back, ownOf(o)) {
			t.Fatalf("Encode(%+v) is %d, and Decode of that %+v, %v", o, short(row), back, err)
		}
	}
	for code := 1; code <= 8; code++ {
		row, _ := guard.Encode(filled(code))
		if back, err := guard.Decode(row); err != nil || !same(back, ownOf(filled(code))) {
			t.Errorf("Decode(%d) is %+v, %v", row, back, err)
		}
	}
}

// P16.5: Encode undoes Decode.
func TestEncodeUndoesDecode(t *testing.T) {
	d := newDice(3)
	undone := 0
	for range 30000 {
		raw := d.row()
		o, err := guard.Decode(raw)
		if err != nil {
			continue
		}
		undone++
		if back, err := guard.Encode(o); err != nil || !slices.Equal(back, raw) {
			t.Fatalf("Decode(%d) is %+v, and Encode of that %d, %v", raw, o, back, err)
		}
	}
	if undone < 10000 {
		t.Errorf("only %d were read", undone)
	}
}

// nears are an operation and others like it, in each of which one field is turned, or one leg or pair more or less is there.
func nears(o api.Op) []api.Op {
	out := []api.Op{o}
	turn := func(do func(x *api.Op)) {
		x := o
		x.Legs, x.Pairs = slices.Clone(o.Legs), slices.Clone(o.Pairs)
		do(&x)
		out = append(out, x)
	}
	turn(func(x *api.Op) { x.Code++ })
	turn(func(x *api.Op) { x.Account++ })
	turn(func(x *api.Op) { x.Asset++ })
	turn(func(x *api.Op) { x.Qty++ })
	turn(func(x *api.Op) { x.Name++ })
	turn(func(x *api.Op) { x.Id++ })
	turn(func(x *api.Op) { x.Legs = append(x.Legs, api.Leg{}) })
	turn(func(x *api.Op) { x.Pairs = append(x.Pairs, api.Key{}) })
	for i := range o.Legs {
		turn(func(x *api.Op) { x.Legs[i].From++ })
		turn(func(x *api.Op) { x.Legs[i].To++ })
		turn(func(x *api.Op) { x.Legs[i].Asset++ })
		turn(func(x *api.Op) { x.Legs[i].Qty++ })
		turn(func(x *api.Op) { x.Legs[i].Name++ })
		turn(func(x *api.Op) { x.Legs = slices.Delete(x.Legs, i, i+1) })
	}
	for i := range o.Pairs {
		turn(func(x *api.Op) { x.Pairs[i].Account++ })
		turn(func(x *api.Op) { x.Pairs[i].Asset++ })
		turn(func(x *api.Op) { x.Pairs = slices.Delete(x.Pairs, i, i+1) })
	}
	return out
}

// P16.5: two operations have the same row just if they have the same own fields.
func TestOneRowEach(t *testing.T) {
	for code := 1; code <= 8; code++ {
		l := nears(filled(code))
		for _, a := range l {
			for _, b := range l {
				one, noOne := guard.Encode(a)
				two, noTwo := guard.Encode(b)
				if noOne == nil && noTwo == nil && slices.Equal(one, two) != same(ownOf(a), ownOf(b)) {
					t.Errorf("the rows of %+v and %+v are %d and %d", a, b, one, two)
				}
			}
		}
	}
}

// P16.6: what is not an operation's own makes no difference to Check, and neither do a configuration's Queue, Shards and Workers.
func TestCheckHangsOnOwnFieldsAlone(t *testing.T) {
	d := newDice(4)
	for range 30000 {
		c := d.config()
		o := d.op(c)
		want := guard.Check(c, o)
		other := d.op(d.config())
		turned := mixed(o, other)
		c.Queue, c.Shards, c.Workers = int(d.number()), int(d.number()), int(d.number())
		for _, x := range []api.Op{ownOf(o), turned} {
			if got := guard.Check(c, x); got != want {
				t.Fatalf("Check(%+v, %+v) is %v, and of %+v %v", c, o, want, x, got)
			}
		}
	}
}

// mixed is an operation whose own fields are those of one, and whose others are those of another.
func mixed(o, other api.Op) api.Op {
	own := ownOf(o)
	other.Code = own.Code
	switch o.Code {
	case api.OpMark, api.OpUnmark:
		other.Name = own.Name
		fallthrough
	case api.OpDeposit, api.OpWithdraw:
		other.Account, other.Asset, other.Qty = own.Account, own.Asset, own.Qty
	case api.OpSubmit:
		other.Legs = own.Legs
		fallthrough
	case api.OpCancel, api.OpStatus:
		other.Id = own.Id
	case api.OpSnapshot:
		other.Pairs = own.Pairs
	}
	return other
}

// P16.6: a field that is not an operation's own may hold anything.
func TestCheckLeavesOtherFields(t *testing.T) {
	right := api.Op{Qty: 1, Name: 1, Id: 1, Legs: []api.Leg{leg(0, 1, 0, 1, 0)}, Pairs: []api.Key{{}}}
	junk := api.Op{Account: -1, Asset: 99, Qty: -5, Name: -7, Id: -1, Legs: times(9, leg(5, 5, 5, 0, -1)), Pairs: times(99, api.Key{Account: -2, Asset: -2})}
	for code := 1; code <= 8; code++ {
		right.Code, junk.Code = code, code
		looks(t, small(), []looked{{right, api.OK}, {mixed(right, junk), api.OK}})
		if guard.Check(small(), junk) == nil {
			t.Errorf("Check takes %+v", junk)
		}
	}
}

// P16.6: what Check takes it takes with more accounts and more assets too.
func TestCheckWithMore(t *testing.T) {
	d := newDice(5)
	taken := 0
	for range 30000 {
		c := d.config()
		o := d.op(c)
		if guard.Check(c, o) != nil {
			continue
		}
		taken++
		for _, more := range []int{0, 1, 2, 1000, 65536} {
			x := c
			x.Accounts, x.Assets = max(c.Accounts, c.Accounts+more), max(c.Assets, c.Assets+d.Below(more+1)) // no more than the greatest number
			y := api.Config{Accounts: max(c.Accounts, 65536), Assets: max(c.Assets, 65536)}
			z := api.Config{Accounts: most, Assets: most}
			for _, wide := range []api.Config{x, y, z} {
				if err := guard.Check(wide, o); err != nil {
					t.Fatalf("Check(%+v, %+v) is nil, and with %+v %v", c, o, wide, err)
				}
			}
		}
	}
	if taken < 5000 {
		t.Errorf("only %d were taken", taken)
	}
}

// P16.7: a Submit is refused as the first of its legs that is refused alone.
func TestSubmitLegByLeg(t *testing.T) {
	d := newDice(6)
	refused := 0
	for range 60000 {
		c := d.config()
		o := d.op(c)
		o.Code, o.Id = api.OpSubmit, proof.Of(&d.Dice, 1, 2, 1<<40)
		if len(o.Legs) < 1 || len(o.Legs) > 4 {
			continue
		}
		var want error
		for _, l := range o.Legs {
			if want = guard.Check(c, submit(1, l)); want != nil {
				refused++
				break
			}
		}
		if got := guard.Check(c, o); got != want {
			t.Fatalf("Check(%+v, %+v) is %v; want %v", c, o, got, want)
		}
	}
	if refused < 5000 {
		t.Errorf("only %d were refused", refused)
	}
}

// P16.7: a Snapshot is refused as the first of its pairs that is refused alone.
func TestSnapshotPairByPair(t *testing.T) {
	d := newDice(7)
	refused, taken := 0, 0
	for range 60000 {
		c := d.config()
		o := d.op(c)
		o.Code = api.OpSnapshot
		if len(o.Pairs) > 64 {
			continue
		}
		var want error
		for _, k := range o.Pairs {
			if want = guard.Check(c, snapshot(k.Account, k.Asset)); want != nil {
				break
			}
		}
		if got := guard.Check(c, o); got != want {
			t.Fatalf("Check(%+v, %+v) is %v; want %v", c, o, got, want)
		}
		if want != nil {
			refused++
		} else {
			taken++
		}
	}
	if refused < 5000 || taken < 5000 {
		t.Errorf("%d were refused, %d taken", refused, taken)
	}
}

// Whatever numbers come in a row, what Decode makes of them is looked at by Check: a Submit of all lists of few legs.
func TestRowsOfLegs(t *testing.T) {
	few := [][]int64{{0, 1, 0, 1, 0}, {2, 0, 1, 5, 65536}, {3, 1, 0, 1, 0}, {0, 3, 0, 1, 0}, {1, 1, 0, 1, 0}, {0, 1, 2, 1, 0}, {0, 1, 0, 0, 0}, {0, 1, 0, 1, -1}}
	rows := [][]int64{{5, 1}}
	for at := 0; at < len(rows); at++ {
		raw := rows[at]
		o, _ := decodes(t, raw)
		checks(t, small(), o)
		if len(raw) < 2+5*5 {
			for _, l := range few {
				rows = append(rows, append(slices.Clone(raw), l...))
			}
		}
	}
}
