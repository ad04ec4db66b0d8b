package store_test

import (
	"slices"
	"testing"

	"custody/api"
	"custody/proof"
)

// version is one under a key: its number, and what its value stands for.
type version struct {
	k    api.Key
	n, v int
}

// model is a second reckoning of a store: all of it is looked through for each answer.
type model struct {
	list  []version
	reads []int  // what each reader reads, that of the first one first
	ended []bool // whether it has ended
}

func (m *model) put(k api.Key, n, v int) api.Errno {
	if n < 0 || slices.ContainsFunc(m.list, func(x version) bool { return x.k == k && x.n >= n }) {
		return api.ErrArg
	}
	m.list = append(m.list, version{k, n, v})
	return api.OK
}

func (m *model) at(k api.Key, n int) (version, bool) {
	best, ok := version{}, false
	for _, x := range m.list {
		if x.k == k && x.n <= n && (!ok || x.n > best.n) {
			best, ok = x, true
		}
	}
	return best, ok
}

func (m *model) keys() []api.Key {
	var l []api.Key
	for _, x := range m.list {
		if !slices.Contains(l, x.k) {
			l = append(l, x.k)
		}
	}
	slices.SortFunc(l, func(a, b api.Key) int {
		if a.Account < b.Account || a.Account == b.Account && a.Asset < b.Asset {
			return -1
		}
		return 1
	})
	return l
}

func (m *model) open(n int) int {
	m.reads, m.ended = append(m.reads, n), append(m.ended, false)
	return len(m.reads)
}

func (m *model) close(reader int) bool {
	if reader < 1 || reader > len(m.reads) || m.ended[reader-1] {
		return false
	}
	m.ended[reader-1] = true
	return true
}

func (m *model) oldest(n int) int {
	for i, at := range m.reads {
		if !m.ended[i] && at < n {
			n = at
		}
	}
	return n
}

func (m *model) prune(k api.Key, n int) int {
	old := len(m.list)
	if keep, ok := m.at(k, m.oldest(n)); ok {
		m.list = slices.DeleteFunc(m.list, func(x version) bool { return x.k == k && x.n < keep.n })
	}
	return old - len(m.list)
}

// smallKeys are keys that lie in one another's neighbourhood.
func smallKeys() []api.Key {
	return []api.Key{key(-1, 0), key(-1, 1), key(0, -1), key(0, 0), key(0, 1), key(1, 0), key(2, 5)}
}

// call is one that changes a store: which one, and its arguments.
type call struct {
	kind byte // 'p'ut, 'o'pen, 'c'lose, p'r'une
	k    api.Key
	n, v int
}

// anyCall is a call, with numbers that rise with the place at which it stands.
func anyCall(d *proof.Dice, place int) call {
	n := proof.Of(d, place/3+d.Below(5), place/3+d.Below(5), d.Below(place+3)-2, d.Below(4)-2)
	c := call{k: proof.Of(d, smallKeys()...), n: n, v: d.Below(60)}
	switch d.Below(10) {
	case 0, 1, 2, 3, 4, 5:
		c.kind = 'p'
	case 6:
		c.kind = 'o'
	case 7:
		c.kind, c.n = 'c', d.Below(place/8+4)-1
	default:
		c.kind = 'r'
		c.n = proof.Of(d, n, n, most, least)
	}
	return c
}

// done is what a call is answered: a number, or an error's.
func done(s stored, c call) int {
	switch c.kind {
	case 'p':
		if err := s.put(c.k, c.n, c.v); proof.Tells(err, api.ErrArg) {
			return 1
		} else if err != nil {
			return proof.Wrong
		}
	case 'o':
		return s.Open(c.n)
	case 'c':
		if s.Close(c.n) {
			return 1
		}
	case 'r':
		return s.Prune(c.k, c.n)
	}
	return 0
}

// reckoned is what the model says of a call.
func reckoned(m *model, c call) int {
	switch c.kind {
	case 'p':
		return int(m.put(c.k, c.n, c.v)) / int(api.ErrArg)
	case 'o':
		return m.open(c.n)
	case 'c':
		if m.close(c.n) {
			return 1
		}
	case 'r':
		return m.prune(c.k, c.n)
	}
	return 0
}

// same holds all that a store can be asked without changing it against a model.
func same(t *testing.T, s stored, m *model, upTo int) {
	t.Helper()
	keysAre(t, s, m.keys()...)
	versionsAre(t, s, len(m.list))
	for _, n := range []int{least, -2, -1, 0, 1, upTo / 2, upTo, most} {
		oldestAre(t, s, [2]int{n, m.oldest(n)})
	}
	for _, k := range smallKeys() {
		x, there := m.at(k, most)
		lastIs(t, s, k, x.v, x.n, there)
		for n := -1; n <= upTo; n++ {
			want, there := m.at(k, n)
			if v, ok := s.at(k, n); v != want.v || ok != there {
				t.Fatalf("At(%v, %d) is %d %v, not %d %v", k, n, v, ok, want.v, there)
			}
		}
	}
}

// TestAgainstModel holds rows of calls against a second reckoning.
func TestAgainstModel(t *testing.T) {
	d := proof.Dice(113)
	eachType(t, func(t *testing.T, made func(shards int) stored) {
		for range 30 {
			s, m := made(d.Below(70)-2), &model{}
			for place := range 90 {
				c := anyCall(&d, place)
				if got, want := done(s, c), reckoned(m, c); got != want {
					t.Fatalf("%c %v %d is %d, not %d", c.kind, c.k, c.n, got, want)
				}
				if place%15 == 14 {
					same(t, s, m, 40)
				}
			}
		}
	})
}

// TestShardsAreNotSeen is P11.9: stores of all numbers of shards are asked the same, each call behind the other.
func TestShardsAreNotSeen(t *testing.T) {
	d := proof.Dice(114)
	made := holding(proof.Numbers())
	for range 20 {
		var all []stored
		for shards := -1; shards <= api.MaxShards+1; shards++ {
			all = append(all, made(shards))
		}
		all = append(all, made(least), made(most))
		for place := range 60 {
			c := anyCall(&d, place)
			want, keys := done(all[0], c), all[0].Keys()
			v, n, there := all[0].last(c.k)
			count, counted := all[0].at(c.k, c.n)
			for _, s := range all[1:] {
				if got := done(s, c); got != want {
					t.Fatalf("%d shards: %c %v %d is %d, not %d", s.Shards(), c.kind, c.k, c.n, got, want)
				}
				keysAre(t, s, keys...)
				lastIs(t, s, c.k, v, n, there)
				if got, ok := s.at(c.k, c.n); got != count || ok != counted {
					t.Fatalf("%d shards: At(%v, %d) is %d %v, not %d %v", s.Shards(), c.k, c.n, got, ok, count, counted)
				}
				oldestAre(t, s, [2]int{most, all[0].Oldest(most)}, [2]int{c.n, all[0].Oldest(c.n)})
				versionsAre(t, s, all[0].Versions())
			}
		}
	}
}

// TestReaderSeesWhatItSaw is P11.10: a second store gets the same Puts and is pruned until the reader begins alone.
func TestReaderSeesWhatItSaw(t *testing.T) {
	d := proof.Dice(115)
	eachType(t, func(t *testing.T, made func(shards int) stored) {
		for range 40 {
			s, unpruned := made(d.Below(64)+1), made(d.Below(64)+1)
			begins, n, reader := d.Below(30), d.Below(14)-2, 0
			for place := range 70 {
				if place == begins {
					reader = s.Open(n)
				}
				c := anyCall(&d, place)
				if c.kind == 'c' && place >= begins && c.n == reader {
					continue
				}
				done(s, c)
				if c.kind == 'p' || place < begins {
					done(unpruned, c)
				}
				if place < begins || place%10 != 9 {
					continue
				}
				for _, k := range smallKeys() {
					for m := n; m < 40; m++ {
						want, there := unpruned.at(k, m)
						if v, ok := s.at(k, m); v != want || ok != there {
							t.Fatalf("a reader of %d: At(%v, %d) is %d %v, not %d %v", n, k, m, v, ok, want, there)
						}
					}
				}
			}
		}
	})
}

// seen is what At and Last say of a key.
type seen struct {
	v, n int
	ok   bool
}

// view is what is seen of all keys: their newest versions, and what counts at each number from a first one on.
func view(s stored, from int) []seen {
	var l []seen
	for _, k := range smallKeys() {
		v, n, ok := s.last(k)
		l = append(l, seen{v, n, ok})
		for m := max(from, -1); m < 45; m++ {
			v, ok := s.at(k, m)
			l = append(l, seen{v, m, ok})
		}
		v, ok = s.at(k, most)
		l = append(l, seen{v, most, ok})
	}
	return l
}

// TestPruneIsNotSeen is P11.11: of stores behind rows of calls, all keys pruned with one number.
func TestPruneIsNotSeen(t *testing.T) {
	d := proof.Dice(116)
	eachType(t, func(t *testing.T, made func(shards int) stored) {
		for range 60 {
			s, m := made(d.Below(64)+1), &model{}
			for place := range 50 {
				c := anyCall(&d, place)
				done(s, c)
				reckoned(m, c)
			}
			n := proof.Of(&d, d.Below(20)-2, d.Below(20)-2, least, most)
			oldest := s.Oldest(n)
			old, keys := view(s, oldest), s.Keys()
			above := 0
			for _, x := range m.list {
				if x.n > oldest {
					above++
				}
			}
			for _, k := range smallKeys() {
				before := s.Versions()
				forgotten := s.Prune(k, n)
				versionsAre(t, s, before-forgotten)
				keysAre(t, s, keys...)
				if !slices.Equal(view(s, oldest), old) {
					t.Fatalf("Prune(%v, %d) is seen from %d on", k, n, oldest)
				}
			}
			if s.Versions() > len(keys)+above {
				t.Fatalf("of %d keys, and %d versions above %d, %d are left", len(keys), above, oldest, s.Versions())
			}
			for _, k := range smallKeys() {
				prunes(t, s, k, n, 0)
			}
		}
	})
}
