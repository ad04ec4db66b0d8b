package dvp_test

import (
	"maps"
	"math"
	"slices"
	"testing"

	"custody/api"
	"custody/dvp"
	"custody/proof"
)

const (
	most  = api.MaxAmount
	least = math.MinInt64
)

var (
	pos      = proof.Position
	leg      = proof.Leg
	held     = proof.Held
	marked   = proof.Marked
	submit   = proof.Submit
	ided     = proof.Identified
	snapshot = proof.Snapshot
	keys     = proof.Keys
)

func key(account, asset int) api.Key { return api.Key{Account: account, Asset: asset} }

// widest is the ledger in which operations and legs are looked at.
func widest() api.Config { return api.Config{Accounts: 65536, Assets: 65536} }

// cells are what a view holds.
type cells map[api.Key]api.Cell

// copied are the same cells in memory of their own.
func (c cells) copied() cells {
	out := cells{}
	for k, x := range c {
		x.Position.Marks, x.Record.Legs = slices.Clone(x.Position.Marks), slices.Clone(x.Record.Legs)
		out[k] = x
	}
	return out
}

// with are the same cells, with another position under a key.
func (c cells) with(account, asset int, p api.Position) cells {
	out := c.copied()
	x := out[key(account, asset)]
	x.Position = p
	out[key(account, asset)] = x
	return out
}

// records are the same cells, with a record of these legs.
func (c cells) records(id, status int, legs ...api.Leg) cells {
	out := c.copied()
	x := out[key(-1, id)]
	x.Record = api.Record{Status: status, Legs: legs}
	out[key(-1, id)] = x
	return out
}

// book is a second ledger with the same in it.
func (c cells) book() *proof.Book {
	b := proof.NewBook()
	for k, x := range c {
		if k.Account == -1 {
			b.Records[k.Asset] = api.Record{Status: x.Record.Status, Legs: slices.Clone(x.Record.Legs)}
		} else {
			b.Lay(k, x.Position)
		}
	}
	return b
}

// behind are the cells that a book says, where these were ahead of it; and the keys of the positions that changed, rising.
func (c cells) behind(b *proof.Book) (cells, []api.Key) {
	out := c.copied()
	var changed []api.Key
	for k := range b.Held {
		out[k] = out[k]
	}
	for k, x := range out {
		if k.Account == -1 {
			continue
		}
		if p := b.Position(k); !proof.SamePosition(p, x.Position) {
			changed = append(changed, k)
			x.Position = p
			out[k] = x
		}
	}
	for id, r := range b.Records {
		x := out[key(-1, id)]
		x.Record = r
		out[key(-1, id)] = x
	}
	return out, sorted(changed)
}

// sorted are keys in their order, each once.
func sorted(l []api.Key) []api.Key {
	once := map[api.Key]int{}
	for _, k := range l {
		once[k]++
	}
	return slices.SortedFunc(maps.Keys(once), func(a, b api.Key) int {
		if a.Account != b.Account && a.Account < b.Account || a.Account == b.Account && a.Asset < b.Asset {
			return -1
		}
		return 1
	})
}

// equal tells whether two views hold the same; a zero cell is as none.
func (c cells) equal(other cells) bool {
	for _, l := range []cells{c, other} {
		for k := range l {
			if !proof.SameCell(c[k], other[k]) {
				return false
			}
		}
	}
	return true
}

// books are a view that watches what is done with it. What it hands out has junk in its spare room; what is put to it is its own, and it spoils it at once.
type books struct {
	cells  cells
	got    map[api.Key]int
	put    map[api.Key]int
	handed []api.Cell // what it told
	ahead  []api.Cell // the same, in memory of their own, with the spare room
}

func open(c cells) *books {
	return &books{cells: c.copied(), got: map[api.Key]int{}, put: map[api.Key]int{}}
}

func (b *books) Get(k api.Key) api.Cell {
	b.got[k]++
	c := proof.RoomyCell(b.cells[k])
	b.handed, b.ahead = append(b.handed, c), append(b.ahead, whole(c))
	return c
}

func (b *books) Put(k api.Key, c api.Cell) {
	b.put[k]++
	own := cells{k: c}.copied()
	b.cells[k] = own[k]
	proof.SpoilCell(c)
}

// whole is a copy of a cell in whose lists the spare room is seen too.
func whole(c api.Cell) api.Cell {
	c.Position.Marks, c.Record.Legs = slices.Clone(proof.Whole(c.Position.Marks)), slices.Clone(proof.Whole(c.Record.Legs))
	return c
}

// isFair checks that the view was asked of these keys alone, and that what it told is as it was.
func (b *books) isFair(t *testing.T, of any, within []api.Key) {
	t.Helper()
	for _, asked := range []map[api.Key]int{b.got, b.put} {
		for k := range asked {
			if !slices.Contains(within, k) {
				t.Fatalf("%+v: the view was asked of %v, beside %v", of, k, within)
			}
		}
	}
	for i, c := range b.handed {
		if !proof.SameCell(whole(c), b.ahead[i]) {
			t.Fatalf("%+v: what Get told, %+v, became %+v", of, b.ahead[i], whole(c))
		}
	}
}

// legKeys are those of legs and of a record once more.
func legKeys(id int, legs []api.Leg) []api.Key {
	l := keys(-1, id)
	for _, x := range legs {
		l = append(l, key(x.From, x.Asset), key(x.To, x.Asset))
	}
	return sorted(l)
}

// opKeys are those of an operation once more.
func opKeys(o api.Op) []api.Key {
	switch o.Code {
	case 1, 2, 3, 4:
		return keys(o.Account, o.Asset)
	case 5:
		return legKeys(o.Id, o.Legs)
	case 6, 7:
		return keys(-1, o.Id)
	case 8:
		return sorted(o.Pairs)
	}
	return nil
}

// applies checks Apply over cells against the reckoning: the answer, the keys, the cells behind it, and what it asked of the view.
func applies(t *testing.T, c cells, o api.Op, room bool) (api.Answer, cells) {
	t.Helper()
	b := c.book()
	want := b.Do(widest(), o, room)
	if want.Err == api.OK && o.Code == api.OpSnapshot {
		want = api.Answer{Err: api.ErrCode}
	}
	after, changed := c.behind(b)
	v := open(c)
	got, l := dvp.Apply(v, o, room)
	if !proof.SameAnswer(got, want) || !slices.Equal(l, changed) {
		t.Fatalf("Apply(%+v, %+v, %v) is %+v, %v; want %+v, %v", c, o, room, got, l, want, changed)
	}
	if !v.cells.equal(after) {
		t.Fatalf("Apply(%+v, %+v, %v) leaves %+v; want %+v", c, o, room, v.cells, after)
	}
	if want.Err != api.OK && len(v.put) > 0 {
		t.Fatalf("Apply(%+v, %+v, %v) is refused, and puts to %v", c, o, room, v.put)
	}
	v.isFair(t, o, opKeys(o))
	return got, after
}

// settles checks Settle over cells against the reckoning.
func settles(t *testing.T, c cells, id int) (bool, cells) {
	t.Helper()
	b := c.book()
	want := b.Settle(id)
	after, changed := c.behind(b)
	v := open(c)
	l, got := dvp.Settle(v, id)
	if got != want || !slices.Equal(l, changed) {
		t.Fatalf("Settle(%+v, %d) is %v, %v; want %v, %v", c, id, l, got, changed, want)
	}
	if !v.cells.equal(after) {
		t.Fatalf("Settle(%+v, %d) leaves %+v; want %+v", c, id, v.cells, after)
	}
	if !want && len(v.put) > 0 {
		t.Fatalf("Settle(%+v, %d) is false, and puts to %v", c, id, v.put)
	}
	within := keys(-1, id)
	if r := c[key(-1, id)].Record; r.Status == api.Pending {
		within = legKeys(id, r.Legs)
	}
	v.isFair(t, id, within)
	return got, after
}

// moves checks Covered and Move over cells against the reckoning.
func moves(t *testing.T, c cells, legs []api.Leg) (api.Errno, cells) {
	t.Helper()
	b := c.book()
	no := proof.Judge(widest(), submit(1, legs...))
	if no == api.OK {
		no = b.Move(legs)
	}
	after, _ := c.behind(b)
	within := slices.DeleteFunc(legKeys(1, legs), func(k api.Key) bool { return k == key(-1, 1) })
	v := open(c)
	if err := dvp.Covered(v, legs); !proof.Tells(err, no) || len(v.put) > 0 || !v.cells.equal(c) {
		t.Fatalf("Covered(%+v, %+v) is %v, and puts to %v; want %v", c, legs, err, v.put, no)
	}
	v.isFair(t, legs, within)
	v = open(c)
	if err := dvp.Move(v, legs); !proof.Tells(err, no) || no != api.OK && len(v.put) > 0 {
		t.Fatalf("Move(%+v, %+v) is %v, and puts to %v; want %v", c, legs, err, v.put, no)
	}
	if !v.cells.equal(after) {
		t.Fatalf("Move(%+v, %+v) leaves %+v; want %+v", c, legs, v.cells, after)
	}
	v.isFair(t, legs, within)
	return no, after
}
