package journal_test

import (
	"bytes"
	"math"
	"strings"
	"testing"

	"custody/api"
	"custody/journal"
	"custody/proof"
)

// maxDisk is how many bytes a disk may have behind a Write.
const maxDisk = 1 << 26

// keeps are fates of all kinds for what hasn't more than ten bytes.
func keeps() []int {
	return []int{math.MinInt, -5, -1, 0, 1, 2, 3, 4, 5, 6, 7, 9, 10, 1 << 40, math.MaxInt - 2, math.MaxInt}
}

// P27.1

func TestNewDisk(t *testing.T) {
	for _, b := range [][]byte{nil, {}, {0}, []byte("abc"), make([]byte, 70000)} {
		for _, keep := range keeps() {
			d := journal.NewDisk(b)
			got, err := d.Bytes()
			if !bytes.Equal(got, b) || err != nil || !bytes.Equal(d.Durable(), b) {
				t.Errorf("a disk of %d bytes has %.20q, %v, of which %.20q are durable", len(b), got, err, d.Durable())
			}
			d.Crash(api.Fate{Keep: keep})
			if !bytes.Equal(d.Durable(), b) {
				t.Errorf("a disk of %d bytes has %.20q behind a failure", len(b), d.Durable())
			}
		}
	}
}

// TestNewDiskIsNotArmed: however many operations are done, the power lasts.
func TestNewDiskIsNotArmed(t *testing.T) {
	d := journal.NewDisk([]byte("abc"))
	for n := range 1000 {
		if e, f, g := d.Write([]byte("d")), d.Cut(2), d.Sync(); e != nil || f != nil || g != nil {
			t.Fatalf("%d: %v, %v, %v", n, e, f, g)
		}
	}
}

// P27.2

func TestWrite(t *testing.T) {
	holds(t, "", steps())
	holds(t, "", []step{write("")})
	holds(t, "abc", []step{write("abc")})
	holds(t, "abc", []step{write("abc"), write("")})
	holds(t, "abcdefg", w(write("g")))
	holds(t, "abxyz", w(cut(2), write("xy"), write("z")))
	holds(t, "z", w(cut(0), write("z")))
	holds(t, strings.Repeat("\x00\xff", 500), []step{write(strings.Repeat("\x00\xff", 500))})
}

// TestWriteIsNotDurable till it is synced.
func TestWriteIsNotDurable(t *testing.T) {
	leaves(t, "", []step{write("abc")})
	leaves(t, "abc", w())
	leaves(t, "abc", w(write("g")))
}

// TestWriteOfTooMuch is P27.2 at its limit.
func TestWriteOfTooMuch(t *testing.T) {
	d := journal.NewDisk(make([]byte, maxDisk-3))
	has := func(n int) {
		t.Helper()
		if b, err := d.Bytes(); len(b) != n || err != nil {
			t.Fatalf("it has %d bytes, %v; not %d", len(b), err, n)
		}
	}
	write := func(n int, no api.Errno, size int) {
		t.Helper()
		if err := d.Write(make([]byte, n)); !proof.Tells(err, no) {
			t.Fatalf("Write of %d bytes: %v, not %v", n, err, no)
		}
		has(size)
	}
	write(4, api.ErrMany, maxDisk-3)
	write(maxDisk, api.ErrMany, maxDisk-3)
	write(3, api.OK, maxDisk)
	write(0, api.OK, maxDisk)
	write(1, api.ErrMany, maxDisk)
	if err := d.Cut(maxDisk - 1); err != nil {
		t.Fatal(err)
	}
	write(2, api.ErrMany, maxDisk-1)
	write(1, api.OK, maxDisk)
	if n := len(d.Durable()); n != maxDisk-3 {
		t.Errorf("%d bytes are durable", n)
	}
	d.Crash(api.Fate{Keep: 1})
	if n := len(d.Durable()); n != maxDisk-2 {
		t.Errorf("%d bytes are there behind the failure", n)
	}
}

// TestWriteOfAllAtOnce is P27.2: as much as there may be, and one more.
func TestWriteOfAllAtOnce(t *testing.T) {
	d := journal.NewDisk(nil)
	b := make([]byte, maxDisk+1)
	if err := d.Write(b); !proof.Tells(err, api.ErrMany) {
		t.Errorf("%d bytes: %v", len(b), err)
	}
	if err := d.Write(b[:maxDisk]); err != nil {
		t.Errorf("%d bytes: %v", maxDisk, err)
	}
	if err := d.Sync(); err != nil || len(d.Durable()) != maxDisk {
		t.Errorf("%v, %d bytes", err, len(d.Durable()))
	}
}

// TestMoreThanADiskMayHave: of a disk that is made with too much, nothing is lost; but nothing can be written either, not even no bytes.
func TestMoreThanADiskMayHave(t *testing.T) {
	d := journal.NewDisk(make([]byte, maxDisk+1))
	if err := d.Write(nil); !proof.Tells(err, api.ErrMany) {
		t.Errorf("Write of nothing: %v", err)
	}
	if e, f := d.Cut(maxDisk+1), d.Sync(); e != nil || f != nil || len(d.Durable()) != maxDisk+1 {
		t.Errorf("%v, %v, %d bytes", e, f, len(d.Durable()))
	}
	if e, f := d.Cut(maxDisk), d.Write(nil); e != nil || f != nil {
		t.Errorf("behind a cut: %v, %v", e, f)
	}
}

// P27.3

func TestCut(t *testing.T) {
	for n, want := range []string{"", "a", "ab", "abc", "abcd", "abcde", "abcdef"} {
		holds(t, want, w(cut(n)))
		leaves(t, "abc", w(cut(n)))
		leaves(t, want, w(cut(n), sync()))
		holds(t, want, w(cut(n), cut(n)))
	}
	for _, n := range []int{-1, 7, 8, -2, 1 << 26, math.MaxInt, math.MinInt} {
		fails(t, api.ErrArg, w(), cut(n))
		holds(t, "abcdef", w(cut(n)))
	}
	holds(t, "", []step{cut(0)})
	fails(t, api.ErrArg, nil, cut(1))
	fails(t, api.ErrArg, nil, cut(-1))
	fails(t, api.ErrArg, w(cut(2)), cut(3)) // cut bytes don't come back, though they are durable
	holds(t, "abgh", w(cut(4), cut(2), write("gh")))
}

// P27.4

func TestSync(t *testing.T) {
	leaves(t, "", []step{sync()})
	leaves(t, "abc", []step{write("abc"), sync()})
	leaves(t, "abcdef", w(sync()))
	leaves(t, "abcdef", w(sync(), sync()))
	leaves(t, "ab", w(cut(2), sync()))
	leaves(t, "", w(cut(0), sync()))
	leaves(t, "ax", w(cut(1), write("x"), sync()))
	leaves(t, "abcdef", w(sync(), write("g")))
	holds(t, "abcdefg", w(sync(), write("g")))
	for _, keep := range keeps() {
		leaves(t, "abcdef", w(sync(), crash(keep)))
	}
}

// TestDead is P27.2, P27.3, P27.4, P27.8: a dead disk refuses all, ahead of what else is wrong.
func TestDead(t *testing.T) {
	full := journal.NewDisk(make([]byte, maxDisk))
	full.Crash(api.Fate{})
	if err := full.Write([]byte{1}); !proof.Tells(err, api.ErrDead) {
		t.Errorf("Write of a byte too much: %v", err)
	}
	for _, dead := range [][]step{w(crash(0)), w(crash(9)), w(arm(1, 2), sync()), {crash(0)}} {
		for _, s := range []step{write(""), write("x"), cut(0), cut(1), cut(-1), cut(99), cut(math.MaxInt), cut(math.MinInt), sync()} {
			fails(t, api.ErrDead, dead, s)
			d, p := play(t, "", dead...)
			for range 3 {
				s.disk(d)
				shows(t, d, p, names(dead)+s.name)
			}
			d.Revive()
			p.revive()
			shows(t, d, p, names(dead)+s.name+"; Revive")
		}
	}
}

// P27.6, and what is there behind a failure

// crashes tells what is durable behind a failure with each fate from Keep 0 on, as far as that changes it.
func crashes(t *testing.T, l []step, want ...string) {
	t.Helper()
	for _, keep := range keeps() {
		end := want[min(max(0, keep), len(want)-1)]
		leaves(t, end, append(steps(l), crash(keep)))
		holds(t, end, append(steps(l), crash(keep), revive()))
	}
}

func TestCrash(t *testing.T) {
	crashes(t, nil, "")
	crashes(t, []step{write("abc")}, "", "a", "ab", "abc")
	crashes(t, []step{write("abc"), sync()}, "abc")
	crashes(t, w(), "abc", "abcd", "abcde", "abcdef")
	crashes(t, w(write("g"), write("h")), "abc", "abcd", "abcde", "abcdef", "abcdefg", "abcdefgh")
	crashes(t, w(write("")), "abc", "abcd", "abcde", "abcdef")
}

// TestCrashBehindCuts: those that were not synced are done, if anything is kept; of what was written behind them, a beginning is there.
func TestCrashBehindCuts(t *testing.T) {
	crashes(t, w(cut(6)), "abc", "abcd", "abcde", "abcdef")
	crashes(t, w(cut(5)), "abc", "abcd", "abcde")
	crashes(t, w(cut(4), write("g")), "abc", "abcd", "abcdg")
	crashes(t, w(cut(3)), "abc")
	crashes(t, w(cut(3), write("g")), "abc", "abcg")
	crashes(t, w(cut(2)), "abc", "ab")
	crashes(t, w(cut(0)), "abc", "")
	crashes(t, w(cut(0), write("xyz")), "abc", "x", "xy", "xyz")
	crashes(t, w(cut(1), write("gh")), "abc", "ag", "agh")
	crashes(t, []step{write("abc"), sync(), cut(1), write("def")}, "abc", "ad", "ade", "adef")
	crashes(t, []step{write("abc"), cut(1)}, "", "a")
	crashes(t, []step{write("abc"), cut(2), write("d")}, "", "a", "ab", "abd")
}

// TestCrashBehindSeveralCuts: the least number of bytes counts, whichever of the cuts left it.
func TestCrashBehindSeveralCuts(t *testing.T) {
	crashes(t, w(cut(1), write("ghij"), cut(3), write("kl")), "abc", "ag", "agh", "aghk", "aghkl")
	crashes(t, w(cut(2), write("gh"), cut(1), write("ij")), "abc", "ai", "aij")
	crashes(t, w(cut(1), write("gh"), cut(1), write("ij")), "abc", "ai", "aij")
	crashes(t, w(cut(1), write("gh"), cut(2)), "abc", "ag")
	crashes(t, w(cut(5), cut(4), cut(3), cut(2), cut(1)), "abc", "a")
	crashes(t, w(cut(0), write("x"), cut(0), write("yz"), cut(1)), "abc", "y")
	crashes(t, w(cut(5), write("x"), cut(4), write("y")), "abc", "abcd", "abcdy")
}

// TestLeastIsCountedAnew behind a Sync, and behind a failure.
func TestLeastIsCountedAnew(t *testing.T) {
	crashes(t, w(cut(1), sync(), write("gh")), "a", "ag", "agh")
	crashes(t, w(cut(1), write("gh"), sync(), write("ij")), "agh", "aghi", "aghij")
	crashes(t, w(cut(0), sync(), write("gh"), sync(), cut(1)), "gh", "g")
	crashes(t, w(cut(1), crash(1), revive(), write("gh")), "a", "ag", "agh")
	crashes(t, w(cut(1), crash(0), revive(), write("gh")), "abc", "abcg", "abcgh")
	crashes(t, w(crash(2), revive(), write("gh")), "abcde", "abcdeg", "abcdegh")
	crashes(t, w(crash(0), revive(), write("gh"), cut(2), write("i")), "abc", "abi")
	crashes(t, w(cut(1), write("gh"), arm(1, 2), sync(), revive(), write("ij")), "agh", "aghi", "aghij")
}

// TestCrashOfTheDead changes nothing, whatever its fate.
func TestCrashOfTheDead(t *testing.T) {
	for _, keep := range keeps() {
		leaves(t, "abcdef", w(crash(9), crash(keep)))
		leaves(t, "abcd", w(crash(1), crash(keep), crash(keep)))
		leaves(t, "abc", w(crash(0), crash(keep)))
		leaves(t, "ab", w(cut(2), crash(1), crash(keep)))
		fails(t, api.ErrDead, w(crash(9), crash(keep)), write("x"))
		holds(t, "abcde", w(arm(1, 2), sync(), crash(keep), revive()))
	}
}

// P27.7

func TestRevive(t *testing.T) {
	holds(t, "abc", w(crash(0), revive()))
	holds(t, "abcd", w(crash(1), revive()))
	holds(t, "abcdef", w(crash(9), revive()))
	holds(t, "abcdefg", w(crash(9), revive(), revive(), write("g")))
	leaves(t, "abcdef", w(crash(9), revive(), write("g")))
	leaves(t, "abcdefg", w(crash(9), revive(), write("g"), sync()))
	leaves(t, "abcg", w(crash(0), revive(), write("gh"), crash(1), revive()))
}

// TestReviveOfTheLiving: what wasn't synced is not, and is there.
func TestReviveOfTheLiving(t *testing.T) {
	holds(t, "abcdef", w(revive()))
	leaves(t, "abc", w(revive()))
	crashes(t, w(revive()), "abc", "abcd", "abcde", "abcdef")
	crashes(t, w(cut(1), revive(), write("gh")), "abc", "ag", "agh")
}

// P27.8

// TestBytesAreNoOperation: they don't count for Arm, and change nothing.
func TestBytesAreNoOperation(t *testing.T) {
	d, p := play(t, "", w(arm(2, 1))...)
	for range 10 {
		shows(t, d, p, "armed")
	}
	if e, f := d.Sync(), d.Sync(); e != nil || !proof.Tells(f, api.ErrDead) {
		t.Errorf("%v, then %v", e, f)
	}
}

func TestBytesOfTheDead(t *testing.T) {
	d, _ := play(t, "", w(crash(2))...)
	for range 3 {
		if b, err := d.Bytes(); len(b) != 0 || !proof.Tells(err, api.ErrDead) {
			t.Errorf("%q, %v", b, err)
		}
		if b := d.Durable(); string(b) != "abcde" {
			t.Errorf("%q is durable", b)
		}
	}
}
