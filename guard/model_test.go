package guard_test

import (
	"math"
	"reflect"
	"slices"
	"testing"

	"custody/api"
	"custody/guard"
	"custody/proof"
)

const (
	most  = math.MaxInt64
	least = math.MinInt64
)

// same tells whether two operations are the same.
var same = proof.SameOp

// layout is the chapter's table of rows: the fields that stand behind a code, the list behind them, and the fields of each thing in it.
type layout struct {
	fixed []string
	list  string
	each  []string
}

// layouts are those of the eight codes.
func layouts() map[int]layout {
	return map[int]layout{
		1: {fixed: []string{"Account", "Asset", "Qty"}},
		2: {fixed: []string{"Account", "Asset", "Qty"}},
		3: {fixed: []string{"Account", "Asset", "Qty", "Name"}},
		4: {fixed: []string{"Account", "Asset", "Qty", "Name"}},
		5: {fixed: []string{"Id"}, list: "Legs", each: []string{"From", "To", "Asset", "Qty", "Name"}},
		6: {fixed: []string{"Id"}},
		7: {fixed: []string{"Id"}},
		8: {list: "Pairs", each: []string{"Account", "Asset"}},
	}
}

// rowOf is an operation's row once more: its fields by their names.
func rowOf(o api.Op) ([]int64, api.Errno) {
	l, ok := layouts()[o.Code]
	if !ok {
		return nil, api.ErrCode
	}
	v := reflect.ValueOf(o)
	out := []int64{int64(o.Code)}
	for _, name := range l.fixed {
		out = append(out, v.FieldByName(name).Int())
	}
	if l.list == "" {
		return out, api.OK
	}
	things := v.FieldByName(l.list)
	for i := range things.Len() {
		for _, name := range l.each {
			out = append(out, things.Index(i).FieldByName(name).Int())
		}
	}
	return out, api.OK
}

// opOf is what a row tells once more: its numbers are dealt out to the fields until none is left.
func opOf(raw []int64) (api.Op, api.Errno) {
	if len(raw) == 0 {
		return api.Op{}, api.ErrShort
	}
	var o api.Op
	v := reflect.ValueOf(&o).Elem()
	l, ok := layout{}, false
	for code, x := range layouts() {
		if int64(code) == raw[0] {
			l, ok, o.Code = x, true, code
		}
	}
	if !ok {
		return api.Op{}, api.ErrCode
	}
	rest, no := deal(v, l.fixed, raw[1:])
	for l.list != "" && no == api.OK && len(rest) > 0 {
		things := v.FieldByName(l.list)
		thing := reflect.New(things.Type().Elem()).Elem()
		rest, no = deal(thing, l.each, rest)
		things.Set(reflect.Append(things, thing))
	}
	switch {
	case no != api.OK:
		return api.Op{}, no
	case len(rest) > 0:
		return api.Op{}, api.ErrLong
	}
	return o, api.OK
}

// deal puts numbers into fields: those that are left.
func deal(v reflect.Value, names []string, from []int64) ([]int64, api.Errno) {
	for _, name := range names {
		if len(from) == 0 {
			return nil, api.ErrShort
		}
		v.FieldByName(name).SetInt(from[0])
		from = from[1:]
	}
	return from, api.OK
}

// ownOf is an operation with its own fields alone.
func ownOf(o api.Op) api.Op {
	var out api.Op
	from, to := reflect.ValueOf(o), reflect.ValueOf(&out).Elem()
	l := layouts()[o.Code]
	for _, name := range append([]string{"Code", l.list}, l.fixed...) {
		if name != "" {
			to.FieldByName(name).Set(from.FieldByName(name))
		}
	}
	return out
}

// decodes checks Decode against the reckoning: what it answers.
func decodes(t *testing.T, raw []int64) (api.Op, api.Errno) {
	t.Helper()
	got, err := guard.Decode(raw)
	want, no := opOf(raw)
	if !same(got, want) || !proof.Tells(err, no) {
		t.Fatalf("Decode(%d) is %+v, %v; want %+v, %v", short(raw), got, err, want, no)
	}
	return want, no
}

// encodes checks Encode against the reckoning: what it answers.
func encodes(t *testing.T, o api.Op) ([]int64, api.Errno) {
	t.Helper()
	got, err := guard.Encode(o)
	want, no := rowOf(o)
	if !slices.Equal(got, want) || !proof.Tells(err, no) {
		t.Fatalf("Encode(%+v) is %d, %v; want %d, %v", o, short(got), err, short(want), no)
	}
	return want, no
}

// checks checks Check against the reckoning: what it answers.
func checks(t *testing.T, c api.Config, o api.Op) api.Errno {
	t.Helper()
	no := proof.Judge(c, o)
	if err := guard.Check(c, o); !proof.Tells(err, no) {
		t.Fatalf("Check(%+v, %+v) is %v; want %v", c, o, err, no)
	}
	return no
}

// short is the beginning of a row, to be told.
func short(l []int64) []int64 { return l[:min(len(l), 30)] }

// dice throw operations and configurations.
type dice struct{ proof.Dice }

func newDice(seed int) *dice { return &dice{proof.Dice(seed)} }

// edges are numbers that count somewhere, and those on either side of them.
func edges() []int64 {
	return []int64{
		0, 1, 2, 3, 4, 5, 6, 7, 8, 9, 63, 64, 65, 255, 256, 257, 65535, 65536, 65537, 1<<32 - 1, 1 << 32, 1<<32 + 1, 1<<40 - 1, 1 << 40, 1<<40 + 1, 1 << 62, most - 1, most,
		-1, -2, -3, -8, -65536, -1 << 32, 1 - 1<<32, -1 << 40, least + 1, least,
	}
}

// number is any number, most of them small.
func (d *dice) number() int64 {
	return proof.Of(&d.Dice, int64(d.Below(3)), int64(d.Below(3)), int64(d.Below(5))-1, proof.Of(&d.Dice, edges()...), int64(d.Next()))
}

// at is a number that is mostly from 0 to n - 1, or else any.
func (d *dice) at(n int) int {
	if n < 1 || d.Below(12) == 0 {
		return int(d.number())
	}
	return proof.Of(&d.Dice, d.Below(n), 0, n-1)
}

// config is a configuration, mostly with few accounts and assets.
func (d *dice) config() api.Config {
	many := func() int { return proof.Of(&d.Dice, 1+d.Below(4), 1+d.Below(4), 65536, int(d.number())) }
	return api.Config{Accounts: many(), Assets: many(), Queue: int(d.number()), Shards: int(d.number()), Workers: int(d.number())}
}

// op is an operation, of which mostly little is wrong in this configuration; fields that are not its own are filled in too.
func (d *dice) op(c api.Config) api.Op {
	qty := func() int64 { return proof.Of(&d.Dice, 1, 2, most, 1, 1, 1, d.number()) }
	name := func() int { return int(proof.Of(&d.Dice, 0, 1, 7, 65536, 1, 1, 1, d.number())) }
	id := proof.Of(&d.Dice, 1, 2, 1<<40, 1, 1, 1, d.number())
	o := api.Op{Code: 1 + d.Below(8), Account: d.at(c.Accounts), Asset: d.at(c.Assets), Qty: qty(), Name: name(), Id: int(id)}
	if d.Below(20) == 0 {
		o.Code = int(d.number())
	}
	for range proof.Of(&d.Dice, d.Below(5), 1+d.Below(2), d.Below(8)) {
		o.Legs = append(o.Legs, api.Leg{From: d.at(c.Accounts), To: d.at(c.Accounts), Asset: d.at(c.Assets), Qty: qty(), Name: name()})
	}
	for range proof.Of(&d.Dice, d.Below(4), d.Below(10), 60+d.Below(8)) {
		o.Pairs = append(o.Pairs, api.Key{Account: d.at(c.Accounts), Asset: d.at(c.Assets)})
	}
	return o
}

// row is a row of numbers: mostly a code with about as many numbers behind it as it has.
func (d *dice) row() []int64 {
	code := int64(d.Below(10))
	if d.Below(20) == 0 {
		code = d.number()
	}
	l := layouts()[int(code)]
	n := len(l.fixed) + len(l.each)*d.Below(4)
	if d.Below(3) == 0 {
		n += d.Below(4) - 2
	}
	raw := []int64{code}
	for range n {
		raw = append(raw, d.number())
	}
	return raw
}
