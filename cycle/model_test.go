package cycle_test

import (
	"math/big"
	"slices"

	"custody/api"
	"custody/proof"
)

// The second reckoning: the chapter's words, gone through leg by leg and key by key, with numbers without bounds.

// ask is one thing that is looked at: the error, if the thing is wrong.
type ask struct {
	no    api.Errno
	wrong bool
}

func firstWrong(l []ask) api.Errno {
	for _, a := range l {
		if a.wrong {
			return a.no
		}
	}
	return api.OK
}

func wrongWishes(l []api.Wish) api.Errno {
	asks := []ask{{api.ErrMany, len(l) > 256}}
	for at, w := range l {
		twice := slices.ContainsFunc(l[:at], func(v api.Wish) bool { return v.Id == w.Id })
		asks = append(asks, ask{api.ErrArg, proof.Outside(w.Id, 1, 1<<40)}, ask{api.ErrTwice, twice}, ask{api.ErrShort, len(w.Legs) == 0}, ask{api.ErrMany, len(w.Legs) > 4})
		for _, x := range w.Legs {
			asks = append(asks, ask{api.ErrAccount, x.From < 0}, ask{api.ErrAccount, x.To < 0}, ask{api.ErrSame, x.From == x.To}, ask{api.ErrAsset, x.Asset < 0}, ask{api.ErrAmount, x.Qty <= 0}, ask{api.ErrMark, x.Name != 0})
		}
	}
	return firstWrong(asks)
}

func wrongBalances(b []api.Balance) api.Errno {
	var asks []ask
	for at, x := range b {
		asks = append(asks, ask{api.ErrArg, x.Key.Account < 0 || x.Key.Asset < 0}, ask{api.ErrArg, at > 0 && !proof.Behind(x.Key, b[at-1].Key)})
		asks = append(asks, ask{api.ErrArg, x.Position.Avail < 0}, ask{api.ErrMany, len(x.Position.Marks) > 8})
		last := 0
		for _, m := range x.Position.Marks {
			asks = append(asks, ask{api.ErrArg, proof.Outside(m.Name, last+1, 65536) || m.Qty <= 0})
			last = max(last, min(m.Name, 65536))
		}
		asks = append(asks, ask{api.ErrOver, tooMuch(totalOf(x.Position))})
	}
	return firstWrong(asks)
}

func wrongAgain(b []api.Balance, l []api.Wish) api.Errno {
	return firstWrong([]ask{{wrongBalances(b), wrongBalances(b) != api.OK}, {wrongWishes(l), wrongWishes(l) != api.OK}})
}

func totalOf(p api.Position) *big.Int {
	sum := big.NewInt(p.Avail)
	for _, m := range p.Marks {
		sum.Add(sum, big.NewInt(m.Qty))
	}
	return sum
}

func tooMuch(n *big.Int) bool { return n.Cmp(big.NewInt(most)) > 0 }

func from(x api.Leg) api.Key { return api.Key{Account: x.From, Asset: x.Asset} }

func to(x api.Leg) api.Key { return api.Key{Account: x.To, Asset: x.Asset} }

// got is what a key gets of wishes.
func got(k api.Key, l ...api.Wish) *big.Int {
	sum := new(big.Int)
	for _, w := range l {
		for _, x := range w.Legs {
			if to(x) == k {
				sum.Add(sum, big.NewInt(x.Qty))
			}
			if from(x) == k {
				sum.Sub(sum, big.NewInt(x.Qty))
			}
		}
	}
	return sum
}

// allKeys are those of balances and wishes, rising, each once.
func allKeys(b []api.Balance, l []api.Wish) []api.Key {
	var keys []api.Key
	for _, x := range b {
		keys = append(keys, x.Key)
	}
	for _, w := range l {
		for _, x := range w.Legs {
			keys = append(keys, from(x), to(x))
		}
	}
	slices.SortFunc(keys, func(a, b api.Key) int {
		switch {
		case a == b:
			return 0
		case proof.Behind(a, b):
			return 1
		}
		return -1
	})
	return slices.Compact(keys)
}

func netAgain(l []api.Wish) ([]api.Balance, api.Errno) {
	if no := wrongWishes(l); no != api.OK {
		return nil, no
	}
	var out []api.Balance
	for _, k := range allKeys(nil, l) {
		n := got(k, l...)
		if !n.IsInt64() {
			return nil, api.ErrOver
		}
		if n.Sign() != 0 {
			out = append(out, held(k.Account, k.Asset, pos(n.Int64())))
		}
	}
	return out, api.OK
}

func under(b []api.Balance, k api.Key) api.Position {
	for _, x := range b {
		if x.Key == k {
			return x.Position
		}
	}
	return api.Position{}
}

// lacks tells whether at a key less than nothing would be free behind wishes.
func lacks(b []api.Balance, k api.Key, l ...api.Wish) bool {
	return new(big.Int).Add(big.NewInt(under(b, k).Avail), got(k, l...)).Sign() < 0
}

// overflows tells whether at a key the total would be too much.
func overflows(b []api.Balance, k api.Key, l ...api.Wish) bool {
	return tooMuch(new(big.Int).Add(totalOf(under(b, k)), got(k, l...)))
}

// against are the keys that stand against wishes, rising.
func against(b []api.Balance, l []api.Wish) []api.Key {
	return slices.DeleteFunc(allKeys(nil, l), func(k api.Key) bool { return !lacks(b, k, l...) && !overflows(b, k, l...) })
}

func togetherAgain(b []api.Balance, l []api.Wish) bool { return len(against(b, l)) == 0 }

func settleAgain(b []api.Balance, l []api.Wish) ([]api.Balance, api.Errno) {
	over := false
	var out []api.Balance
	for _, k := range allKeys(b, l) {
		if lacks(b, k, l...) {
			return nil, api.ErrCover
		}
		over = over || overflows(b, k, l...)
		p := under(b, k)
		p.Avail += got(k, l...).Int64() // if it is beyond 64 bits, there is an error
		if p.Avail != 0 || len(p.Marks) > 0 {
			out = append(out, api.Balance{Key: k, Position: p})
		}
	}
	if over {
		return nil, api.ErrOver
	}
	return out, api.OK
}

// firstBy is the place of the wish that stands ahead of all others that are so; -1: none is.
func firstBy(l []api.Wish, ahead func(a, b api.Wish) bool, is func(w api.Wish) bool) int {
	first := -1
	for at, w := range l {
		if is(w) && (first < 0 || ahead(w, l[first])) {
			first = at
		}
	}
	return first
}

func goesFirst(a, b api.Wish) bool {
	if a.Priority == b.Priority && a.Came == b.Came {
		return a.Id > b.Id
	}
	return a.Priority < b.Priority || a.Priority == b.Priority && a.Came > b.Came
}

func comesFirst(a, b api.Wish) bool {
	if a.Priority != b.Priority {
		return a.Priority > b.Priority
	}
	if a.Came != b.Came {
		return a.Came < b.Came
	}
	return a.Id < b.Id
}

// moved takes the wish at a place out of one list and puts it to another.
func moved(out, in []api.Wish, at int) ([]api.Wish, []api.Wish) {
	return slices.Delete(slices.Clone(out), at, at+1), append(slices.Clone(in), out[at])
}

func chooseAgain(b []api.Balance, l []api.Wish) []int {
	in, out := l, []api.Wish(nil)
	for keys := against(b, in); len(keys) > 0; keys = against(b, in) {
		end := to
		if lacks(b, keys[0], in...) {
			end = from
		}
		at := firstBy(in, goesFirst, func(w api.Wish) bool {
			return slices.ContainsFunc(w.Legs, func(x api.Leg) bool { return end(x) == keys[0] })
		})
		in, out = moved(in, out, at)
	}
	fits := func(w api.Wish) bool { return togetherAgain(b, append(slices.Clone(in), w)) }
	for at := firstBy(out, comesFirst, fits); at >= 0; at = firstBy(out, comesFirst, fits) {
		out, in = moved(out, in, at)
	}
	var ids []int
	for _, w := range in {
		ids = append(ids, w.Id)
	}
	slices.Sort(ids)
	return ids
}

// waits tells whether a wish that is stuck waits for another one.
func waits(b []api.Balance, w, v api.Wish) bool {
	return w.Id != v.Id && slices.ContainsFunc(allKeys(nil, wishes(w)), func(k api.Key) bool { return lacks(b, k, w) && got(k, v).Sign() > 0 })
}

func ringsAgain(b []api.Balance, l []api.Wish) [][]int {
	stuck := slices.DeleteFunc(slices.Clone(l), func(w api.Wish) bool {
		return !slices.ContainsFunc(allKeys(nil, wishes(w)), func(k api.Key) bool { return lacks(b, k, w) })
	})
	slices.SortFunc(stuck, func(v, w api.Wish) int { return v.Id - w.Id })
	var next [][]int // of each, the places of those for whom it waits
	for _, w := range stuck {
		var l []int
		for y, v := range stuck {
			if waits(b, w, v) {
				l = append(l, y)
			}
		}
		next = append(next, l)
	}
	var comes [][]int // of each, the places to which one comes from it
	for x := range stuck {
		comes = append(comes, walk(next, x))
	}
	var out [][]int
	for x := range stuck {
		var ring []int
		for y, w := range stuck {
			if y == x || slices.Contains(comes[x], y) && slices.Contains(comes[y], x) {
				ring = append(ring, w.Id)
			}
		}
		if len(ring) > 1 && ring[0] == stuck[x].Id {
			out = append(out, ring)
		}
	}
	return out
}

// walk are the places to which one comes from a place.
func walk(next [][]int, start int) []int {
	var met []int
	for row := ints(start); len(row) > 0; row = row[1:] {
		for _, y := range next[row[0]] {
			if !slices.Contains(met, y) {
				met = append(met, y)
				row = append(row, y)
			}
		}
	}
	return met
}
