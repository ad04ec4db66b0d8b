package journal_test

import (
	"slices"
	"testing"

	"custody/api"
	"custody/journal"
	"custody/proof"
)

// opened is a journal that must be one, on a disk that has these records.
func opened(t *testing.T, d *journal.Disk, want ...string) *journal.Journal {
	t.Helper()
	j, l, err := journal.Open(d)
	if err != nil || j == nil || !slices.Equal(texts(l), want) {
		t.Fatalf("Open is %.20q, %v; want %.20q", l, err, want)
	}
	last(t, j, len(want), len(want))
	return j
}

// last holds what Last answers against what is wanted.
func last(t *testing.T, j *journal.Journal, number, durable int) {
	t.Helper()
	if n, k := j.Last(); n != number || k != durable {
		t.Errorf("the last are %d, %d; want %d, %d", n, k, number, durable)
	}
}

// lost tells that Open answers nothing.
func lost(t *testing.T, d *journal.Disk) {
	t.Helper()
	if j, l, err := journal.Open(d); j != nil || len(l) != 0 || !proof.Tells(err, api.ErrDead) {
		t.Errorf("Open is %v, %q, %v", j, l, err)
	}
}

// has tells which bytes a living disk has, and which of them are durable.
func has(t *testing.T, d *journal.Disk, now, durable string) {
	t.Helper()
	if b, err := d.Bytes(); string(b) != now || err != nil || string(d.Durable()) != durable {
		t.Errorf("the disk has %.60x, %v, of which %.60x are durable; want %.60x, %.60x", b, err, d.Durable(), now, durable)
	}
}

// dead tells that a disk is dead, and which bytes are durable; and revives it.
func dead(t *testing.T, d *journal.Disk, durable string) {
	t.Helper()
	if b, err := d.Bytes(); len(b) != 0 || !proof.Tells(err, api.ErrDead) || string(d.Durable()) != durable {
		t.Errorf("the disk has %.60x, %v, of which %.60x are durable; want %.60x", b, err, d.Durable(), durable)
	}
	d.Revive()
}

// unsynced is a disk that has these bytes, of which only the first are durable.
func unsynced(t *testing.T, durable, more string) *journal.Disk {
	t.Helper()
	d := journal.NewDisk([]byte(durable))
	if err := d.Write([]byte(more)); err != nil {
		t.Fatal(err)
	}
	return d
}

// ends are bytes that may stand behind so many records: none, beginnings of the next frame, what is broken, what has another number.
func ends(records int) []string {
	l := []string{""}
	next := frame(uint64(records+1), "next")
	for n := 1; n < len(next); n++ {
		l = append(l, next[:n])
	}
	for _, x := range brokenEnds(uint64(records + 1)) {
		l = append(l, x.b)
	}
	for _, n := range otherNumbers(records) {
		l = append(l, frame(n, "other"), frame(n, "")+next)
	}
	return l
}

// rows are lists of records that aren't long.
func rows() [][]string { return [][]string{nil, {""}, {"ab"}, {"one", "", "three"}} }

// P27.10

// TestOpen: of bytes with any end, those behind the records are cut off, and all that is left is durable, whether it was or not.
func TestOpen(t *testing.T) {
	for _, l := range rows() {
		good := frames(l...)
		for _, end := range ends(len(l)) {
			all := good + end
			for _, synced := range []int{0, len(good) / 2, len(good), len(all)} {
				d := unsynced(t, all[:synced], all[synced:])
				j := opened(t, d, l...)
				has(t, d, good, good)
				if n, err := j.Append([]byte("more")); n != len(l)+1 || err != nil {
					t.Errorf("Append behind %d records is %d, %v", len(l), n, err)
				}
				has(t, d, good+frame(uint64(len(l)+1), "more"), good)
				opened(t, d, append(slices.Clone(l), "more")...)
			}
		}
	}
}

// TestOpenTakesOperations: a Sync, and a Cut ahead of it where bytes are left, and no others.
func TestOpenTakesOperations(t *testing.T) {
	for _, l := range rows() {
		good := frames(l...)
		for _, end := range ends(len(l)) {
			many := 1
			if end != "" {
				many = 2
			}
			for n := range many {
				d := unsynced(t, good, end)
				d.Arm(n+1, api.Fate{})
				lost(t, d)
				dead(t, d, good)
				opened(t, d, l...)
			}
			d := unsynced(t, good, end)
			d.Arm(many+1, api.Fate{Keep: 1})
			j := opened(t, d, l...)
			has(t, d, good, good)
			if n, err := j.Append(nil); n != 0 || !proof.Tells(err, api.ErrDead) {
				t.Errorf("the next operation behind Open of %x is %d, %v", good+end, n, err)
			}
		}
	}
}

// TestFailureInOpen: in its Cut, which is done but not synced, or in its Sync, which is not done; with each fate.
func TestFailureInOpen(t *testing.T) {
	good, end := frames("ab", "c"), frame(4, "wrong")
	for _, keep := range keeps() {
		fate := api.Fate{Keep: keep}
		d := journal.NewDisk([]byte(good + end))
		for n := range 2 {
			d.Arm(n+1, fate)
			lost(t, d)
			if keep > 0 { // the cut is done, though not synced
				dead(t, d, good)
				break
			}
			dead(t, d, good+end)
		}
		opened(t, d, "ab", "c")

		d = unsynced(t, good[:3], good[3:])
		d.Arm(1, fate)
		lost(t, d)
		dead(t, d, good[:min(len(good), 3+min(100, max(0, keep)))])

		d = unsynced(t, good[:3], good[3:]+end)
		d.Arm(2, fate)
		lost(t, d)
		dead(t, d, good[:min(len(good), 3+min(100, max(0, keep)))])
	}
}

// TestOpenOfTheDead: nothing is read, and nothing is changed.
func TestOpenOfTheDead(t *testing.T) {
	for _, b := range []string{"", frames("ab"), frames("ab") + "end"} {
		d := journal.NewDisk([]byte(b))
		d.Crash(api.Fate{})
		for range 3 {
			lost(t, d)
		}
		dead(t, d, b)
		has(t, d, b, b)
	}
}

// TestOpenAgain: what was opened is opened the same, without a failure and behind one.
func TestOpenAgain(t *testing.T) {
	d := journal.NewDisk([]byte(frames("ab", "", "c") + "\x09end"))
	for range 3 {
		opened(t, d, "ab", "", "c")
		opened(t, d, "ab", "", "c")
		d.Crash(api.Fate{Keep: 2})
		d.Revive()
	}
	has(t, d, frames("ab", "", "c"), frames("ab", "", "c"))
}

// TestOpenOfAFullDisk, and of one that has more than may be written.
func TestOpenOfAFullDisk(t *testing.T) {
	for _, size := range []int{maxDisk, maxDisk + 1} {
		b := make([]byte, size)
		copy(b, frame(1, "first"))
		d := journal.NewDisk(b)
		opened(t, d, "first")
		has(t, d, frame(1, "first"), frame(1, "first"))
	}
}
