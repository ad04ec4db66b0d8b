package partial_test

import (
	"slices"
	"testing"

	"custody/api"
	"custody/partial"
	"custody/proof"
)

// legs holds what Legs answers against what is wanted; beside an error there are none.
func legs(t *testing.T, seller, buyer, security, cash int, qty, money int64, want []api.Leg, no api.Errno) {
	t.Helper()
	if l, err := partial.Legs(seller, buyer, security, cash, qty, money); !slices.Equal(l, want) || !proof.Tells(err, no) {
		t.Errorf("Legs(%d, %d, %d, %d, %d, %d) are %+v, %v; want %+v, %v", seller, buyer, security, cash, qty, money, l, err, want, no)
	}
}

// wrongLegs holds Legs to an error.
func wrongLegs(t *testing.T, seller, buyer, security, cash int, qty, money int64, no api.Errno) {
	t.Helper()
	legs(t, seller, buyer, security, cash, qty, money, nil, no)
}

// P26.6

func TestLegs(t *testing.T) {
	const last = 65535
	for _, ends := range [][2]int{{1, 2}, {2, 1}, {0, 1}, {1, 0}, {0, last}, {last, 0}, {last - 1, last}} {
		for _, assets := range [][2]int{{5, 0}, {0, 5}, {1, 2}, {0, last}, {last, 0}, {last, last - 1}} {
			for _, qty := range amounts(1, 2, 10, most-1, most) {
				seller, buyer, security, cash := ends[0], ends[1], assets[0], assets[1]
				first := proof.Leg(seller, buyer, security, qty, 0)
				legs(t, seller, buyer, security, cash, qty, 0, []api.Leg{first}, api.OK)
				for _, money := range amounts(1, 2, 70, most-1, most) {
					legs(t, seller, buyer, security, cash, qty, money, []api.Leg{first, proof.Leg(buyer, seller, cash, money, 0)}, api.OK)
				}
			}
		}
	}
}

// noNumbers are numbers that no account and no asset has.
func noNumbers() []int { return []int{-1, -2, least, 65536, 65537, most, 1 << 32, 1<<32 + 1} }

// TestWrongLegs: each error, at its ends, ahead of all that come after it.
func TestWrongLegs(t *testing.T) {
	for _, security := range append(noNumbers(), 5) {
		for _, cash := range append(noNumbers(), 0, 5) {
			for _, qty := range amounts(1, 0, -1, least, most) {
				for _, money := range amounts(0, 1, -1, least, most) {
					for _, n := range noNumbers() {
						wrongLegs(t, n, 1, security, cash, qty, money, api.ErrAccount)
						wrongLegs(t, 1, n, security, cash, qty, money, api.ErrAccount)
						wrongLegs(t, n, n, security, cash, qty, money, api.ErrAccount)
						wrongLegs(t, n, -1, security, cash, qty, money, api.ErrAccount)
					}
					for _, n := range []int{0, 1, 65535} {
						wrongLegs(t, n, n, security, cash, qty, money, api.ErrSame)
					}
					if security != 5 || cash != 0 {
						wrongLegs(t, 1, 2, security, cash, qty, money, api.ErrAsset)
					}
				}
			}
		}
	}
	for _, n := range []int{0, 1, 65535} {
		for _, qty := range amounts(1, 0, -1, most) {
			for _, money := range amounts(0, 1, -1, most) {
				wrongLegs(t, 1, 2, n, n, qty, money, api.ErrAsset)
			}
		}
	}
	for _, qty := range append(belowNothing(), 0) {
		for _, money := range append(belowNothing(), 0, 1, most) {
			wrongLegs(t, 1, 2, 5, 0, qty, money, api.ErrAmount)
		}
	}
	for _, money := range belowNothing() {
		for _, qty := range amounts(1, 2, most) {
			wrongLegs(t, 1, 2, 5, 0, qty, money, api.ErrAmount)
		}
	}
}

// TestAccountsAreNoAssets: an account may have the number of an asset.
func TestAccountsAreNoAssets(t *testing.T) {
	legs(t, 3, 4, 3, 4, 1, 1, []api.Leg{proof.Leg(3, 4, 3, 1, 0), proof.Leg(4, 3, 4, 1, 0)}, api.OK)
	legs(t, 3, 4, 4, 3, 1, 1, []api.Leg{proof.Leg(3, 4, 4, 1, 0), proof.Leg(4, 3, 3, 1, 0)}, api.OK)
}

// legsAgain looks at one thing after the other, as the chapter does.
func legsAgain(seller, buyer, security, cash int, qty, money int64) ([]api.Leg, api.Errno) {
	outside := func(n int) bool { return n < 0 || n > 65535 }
	for _, x := range []struct {
		wrong bool
		no    api.Errno
	}{{outside(seller), api.ErrAccount}, {outside(buyer), api.ErrAccount}, {seller == buyer, api.ErrSame}, {outside(security), api.ErrAsset}, {outside(cash), api.ErrAsset}, {security == cash, api.ErrAsset}, {qty <= 0, api.ErrAmount}, {money < 0, api.ErrAmount}} {
		if x.wrong {
			return nil, x.no
		}
	}
	l := []api.Leg{proof.Leg(seller, buyer, security, qty, 0), proof.Leg(buyer, seller, cash, money, 0)}
	if money == 0 {
		l = l[:1]
	}
	return l, api.OK
}

func TestThrownLegs(t *testing.T) {
	d := proof.Dice(2610)
	seen := map[api.Errno]int{}
	for range 80000 {
		seller, buyer, security, cash, qty, money := d.Number(), d.Number(), d.Number(), d.Number(), int64(d.Number()), int64(d.Number())
		want, no := legsAgain(seller, buyer, security, cash, qty, money)
		legs(t, seller, buyer, security, cash, qty, money, want, no)
		seen[no]++
	}
	for _, no := range []api.Errno{api.OK, api.ErrAccount, api.ErrSame, api.ErrAsset, api.ErrAmount} {
		if seen[no] < 1000 {
			t.Errorf("%v was told %d times", no, seen[no])
		}
	}
}
