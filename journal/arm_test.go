package journal_test

import (
	"math"
	"testing"

	"custody/api"
	"custody/journal"
	"custody/proof"
)

// operations are one of each kind, and those of which more than one kind is done.
func operations() [][]step {
	return [][]step{
		{write("gh"), write(""), write("ijk"), write("l"), write("m")},
		{cut(5), cut(4), cut(2), cut(2), cut(0)},
		{sync(), sync(), sync(), sync(), sync()},
		{write("gh"), cut(1), sync(), write("ij"), cut(0)},
		{cut(5), write("gh"), cut(1), write("ijk"), sync()},
		{cut(1), sync(), write("gh"), sync(), cut(2)},
		{sync(), cut(2), write("ghij"), cut(3), write("kl")},
	}
}

// P27.5

// TestArm: the power fails in just that operation, with each fate; what comes behind it is refused.
func TestArm(t *testing.T) {
	for _, l := range operations() {
		for _, n := range []int{math.MinInt, -1, 0, 1, 2, 3, 4, 5, 6, 1 << 40, math.MaxInt} {
			for _, keep := range keeps() {
				d, _ := play(t, "", w(arm(n, keep))...)
				for at, s := range l {
					no := api.OK
					if at+1 >= n {
						no = api.ErrDead
					}
					if err := s.disk(d); !proof.Tells(err, no) {
						t.Errorf("Arm(%d), then %s: the last answers %v, not %v", n, names(l[:at+1]), err, no)
					}
				}
				play(t, "", append(w(arm(n, keep)), l...)...)
			}
		}
	}
}

// armed tells what is durable behind one operation, in which the power fails with each fate from Keep 0 on.
func armed(t *testing.T, l []step, in step, want ...string) {
	t.Helper()
	for _, keep := range keeps() {
		for _, n := range []int{math.MinInt, 0, 1} {
			end := want[min(max(0, keep), len(want)-1)]
			fails(t, api.ErrDead, append(steps(l), arm(n, keep)), in)
			leaves(t, end, append(steps(l), arm(n, keep), in))
			holds(t, end, append(steps(l), arm(n, keep), in, revive()))
		}
	}
}

// TestArmedWrite: it is done, and not synced.
func TestArmedWrite(t *testing.T) {
	armed(t, nil, write("abc"), "", "a", "ab", "abc")
	armed(t, w(), write("gh"), "abc", "abcd", "abcde", "abcdef", "abcdefg", "abcdefgh")
	armed(t, w(), write(""), "abc", "abcd", "abcde", "abcdef")
	armed(t, w(sync()), write("g"), "abcdef", "abcdefg")
	armed(t, w(cut(1)), write("gh"), "abc", "ag", "agh")
}

// TestArmedCut: it is done, and not synced.
func TestArmedCut(t *testing.T) {
	armed(t, nil, cut(0), "")
	armed(t, w(), cut(1), "abc", "a")
	armed(t, w(), cut(0), "abc", "")
	armed(t, w(), cut(5), "abc", "abcd", "abcde")
	armed(t, w(), cut(6), "abc", "abcd", "abcde", "abcdef")
	armed(t, w(sync()), cut(4), "abcdef", "abcd")
	armed(t, w(cut(1), write("gh")), cut(2), "abc", "ag")
}

// TestArmedSync: it is not done.
func TestArmedSync(t *testing.T) {
	armed(t, nil, sync(), "")
	armed(t, w(), sync(), "abc", "abcd", "abcde", "abcdef")
	armed(t, w(sync()), sync(), "abcdef")
	armed(t, w(cut(1)), sync(), "abc", "a")
	armed(t, w(cut(1), write("gh")), sync(), "abc", "ag", "agh")
}

// TestRefusedIsNoOperation: what is refused by ErrArg or ErrMany doesn't count.
func TestRefusedIsNoOperation(t *testing.T) {
	refused := []step{cut(-1), cut(7), cut(math.MaxInt), cut(math.MinInt)}
	for _, s := range refused {
		fails(t, api.ErrArg, w(arm(1, 0)), s)
		fails(t, api.ErrDead, w(arm(1, 0), s, s, s), sync())
		fails(t, api.OK, w(arm(2, 0), s, s, s), sync())
		fails(t, api.ErrDead, w(arm(2, 0), s, sync(), s, s), sync())
	}
	d := journal.NewDisk(make([]byte, maxDisk))
	d.Arm(2, api.Fate{})
	for _, no := range []api.Errno{api.OK, api.ErrDead} {
		for range 3 {
			if err := d.Write([]byte{1}); !proof.Tells(err, api.ErrMany) {
				t.Errorf("Write of a byte too much: %v", err)
			}
		}
		if err := d.Write(nil); !proof.Tells(err, no) {
			t.Errorf("Write of nothing: %v, not %v", err, no)
		}
	}
}

// TestArmOverAnArm: the last one counts, from then on.
func TestArmOverAnArm(t *testing.T) {
	fails(t, api.OK, w(arm(1, 0), arm(2, 9)), sync())
	fails(t, api.ErrDead, w(arm(1, 0), arm(2, 9), write("g")), sync())
	leaves(t, "abcdefg", w(arm(1, 0), arm(2, 9), write("g"), sync()))
	fails(t, api.ErrDead, w(arm(5, 9), arm(1, 1)), write("g"))
	leaves(t, "abcd", w(arm(5, 9), arm(1, 1), write("g")))
	leaves(t, "abcde", w(arm(1, 0), arm(1, 9), arm(1, 2), sync()))
	fails(t, api.OK, w(arm(3, 0), write("g"), write("h"), arm(2, 0)), sync()) // counted anew
	fails(t, api.ErrDead, w(arm(3, 0), write("g"), write("h"), arm(2, 0), sync()), sync())
}

// lasts tells that the power lasts behind these steps.
func lasts(t *testing.T, l []step) {
	t.Helper()
	for _, s := range []step{write("g"), cut(0), sync()} {
		for range 10 {
			l = append(l, s)
			fails(t, api.OK, l, s)
		}
	}
}

// TestArmIsForgotten behind a failure, whatever it came from, and behind Revive, of a living disk too.
func TestArmIsForgotten(t *testing.T) {
	lasts(t, w())
	for _, n := range []int{0, 1, 2, 3} {
		lasts(t, w(arm(n, 1), revive()))
		lasts(t, w(arm(n, 1), crash(0), revive()))
		lasts(t, w(crash(0), arm(n, 1), revive()))
		lasts(t, w(arm(1, 1), sync(), arm(n, 1), revive()))
	}
	lasts(t, w(arm(1, 1), sync(), revive()))
	lasts(t, w(arm(2, 1), sync(), write("g"), revive()))
}

// TestArmOfTheDead changes nothing.
func TestArmOfTheDead(t *testing.T) {
	for _, keep := range keeps() {
		leaves(t, "abcd", w(crash(1), arm(1, keep)))
		holds(t, "abcd", w(crash(1), arm(0, keep), arm(1, keep), revive()))
		fails(t, api.ErrDead, w(crash(1), arm(2, keep)), sync())
	}
}
