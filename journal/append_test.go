package journal_test

import (
	"math"
	"strings"
	"testing"

	"custody/api"
	"custody/journal"
	"custody/proof"
)

// appends tells what Append answers.
func appends(t *testing.T, j *journal.Journal, record string, want int, no api.Errno) {
	t.Helper()
	given := proof.Room([]byte(record), '#')
	if n, err := j.Append(given); n != want || !proof.Tells(err, no) {
		t.Fatalf("Append of %d bytes is %d, %v; want %d, %v", len(record), n, err, want, no)
	}
	if string(proof.Whole(given)[:len(record)+3]) != record+"###" {
		t.Fatalf("Append of %d bytes changes them", len(record))
	}
}

// syncs tells what Sync answers.
func syncs(t *testing.T, j *journal.Journal, want int, no api.Errno) {
	t.Helper()
	if n, err := j.Sync(); n != want || !proof.Tells(err, no) {
		t.Fatalf("Sync is %d, %v; want %d, %v", n, err, want, no)
	}
}

// sizes are how long records are at which something changes.
func sizes() []int { return []int{0, 1, 2, 246, 247, 248, 249, 255, 256, 300, 65535, 65536} }

// P27.11

func TestAppend(t *testing.T) {
	d := journal.NewDisk(nil)
	j := opened(t, d)
	var records []string
	for i, n := range sizes() {
		records = append(records, strings.Repeat(string(rune('a'+i)), n))
		appends(t, j, records[i], i+1, api.OK)
		last(t, j, i+1, 0)
		has(t, d, frames(records...), "")
	}
	opened(t, d, records...)
}

// TestAppendOfNothing: nil and no bytes are the same record.
func TestAppendOfNothing(t *testing.T) {
	d := journal.NewDisk(nil)
	j := opened(t, d)
	for i, none := range [][]byte{nil, {}, make([]byte, 0, 9)} {
		if n, err := j.Append(none); n != i+1 || err != nil {
			t.Errorf("%d, %v", n, err)
		}
	}
	has(t, d, frames("", "", ""), "")
}

// TestAppendBehindOthers: numbers go on behind those that Open found.
func TestAppendBehindOthers(t *testing.T) {
	for _, end := range ends(2) {
		d := journal.NewDisk([]byte(frames("ab", "") + end))
		j := opened(t, d, "ab", "")
		appends(t, j, "three", 3, api.OK)
		appends(t, j, "", 4, api.OK)
		last(t, j, 4, 2)
		has(t, d, frames("ab", "", "three", ""), frames("ab", ""))
		opened(t, d, "ab", "", "three", "")
	}
}

// TestAppendOfTooMuch: such a record is refused ahead of any operation; and the next one has the number.
func TestAppendOfTooMuch(t *testing.T) {
	d := journal.NewDisk([]byte(frames("ab")))
	j := opened(t, d, "ab")
	d.Arm(2, api.Fate{Keep: 3})
	for _, n := range []int{65537, 65538, 1 << 17, 1 << 20} {
		appends(t, j, strings.Repeat("x", n), 0, api.ErrMany)
		last(t, j, 1, 1)
		has(t, d, frames("ab"), frames("ab"))
	}
	appends(t, j, strings.Repeat("y", 65536), 2, api.OK)
	appends(t, j, strings.Repeat("y", 65537), 0, api.ErrMany)
	appends(t, j, "three", 0, api.ErrDead)
}

// TestAppendIsOneWrite: of as many records as operations the last one fails.
func TestAppendIsOneWrite(t *testing.T) {
	for _, n := range []int{math.MinInt, -1, 0, 1, 2, 3, 10} {
		for _, record := range []string{"", "x", strings.Repeat("x", 300)} {
			d := journal.NewDisk(nil)
			j := opened(t, d)
			d.Arm(n, api.Fate{})
			for at := 1; at < n; at++ {
				appends(t, j, record, at, api.OK)
			}
			appends(t, j, record, 0, api.ErrDead)
			last(t, j, max(1, n)-1, 0)
		}
	}
}

// TestFailureInAppend: of its frame a beginning may be there; the record is, if all of it is.
func TestFailureInAppend(t *testing.T) {
	good, more := frames("ab", "c"), frame(3, "three")
	for keep := -1; keep < len(more)+3; keep++ {
		d := journal.NewDisk([]byte(good))
		j := opened(t, d, "ab", "c")
		d.Arm(1, api.Fate{Keep: keep})
		appends(t, j, "three", 0, api.ErrDead)
		last(t, j, 2, 2)
		n := min(len(more), max(0, keep))
		dead(t, d, good+more[:n])
		last(t, j, 2, 2)
		if n == len(more) {
			opened(t, d, "ab", "c", "three")
		} else {
			opened(t, d, "ab", "c")
		}
	}
}

// filled is a disk with records of the greatest length, so many that no other one has room, and how many they are.
func filled() (*journal.Disk, int) {
	d := journal.NewDisk(nil)
	j, _, _ := journal.Open(d)
	record := make([]byte, 65536)
	for n := range 2000 {
		if _, err := j.Append(record); err != nil {
			j.Sync()
			return d, n
		}
	}
	return d, 2000
}

// TestAppendToAFullDisk: what has no room is refused, and what has is not.
func TestAppendToAFullDisk(t *testing.T) {
	d, many := filled()
	j, l, err := journal.Open(d)
	if len(l) != many || err != nil || many != 1023 {
		t.Fatalf("Open has %d of %d records, %v", len(l), many, err)
	}
	b, _ := d.Bytes()
	room := maxDisk - len(b)
	fits := room - len(frame(1024, strings.Repeat("x", room))) + room
	appends(t, j, strings.Repeat("x", 65537), 0, api.ErrMany)
	appends(t, j, strings.Repeat("x", 65536), 0, api.ErrMany)
	appends(t, j, strings.Repeat("x", fits+1), 0, api.ErrMany)
	last(t, j, many, many)
	appends(t, j, strings.Repeat("x", fits), many+1, api.OK)
	appends(t, j, "", 0, api.ErrMany)
	last(t, j, many+1, many)
	syncs(t, j, many+1, api.OK)
	if n := len(d.Durable()); n != maxDisk {
		t.Errorf("%d bytes are durable", n)
	}
	d.Arm(1, api.Fate{})
	appends(t, j, "", 0, api.ErrMany) // no operation
	syncs(t, j, 0, api.ErrDead)
	appends(t, j, "", 0, api.ErrDead)
}

// P27.12 and P27.13

func TestSyncOfAJournal(t *testing.T) {
	d := journal.NewDisk(nil)
	j := opened(t, d)
	syncs(t, j, 0, api.OK)
	last(t, j, 0, 0)
	appends(t, j, "ab", 1, api.OK)
	appends(t, j, "", 2, api.OK)
	last(t, j, 2, 0)
	has(t, d, frames("ab", ""), "")
	syncs(t, j, 2, api.OK)
	last(t, j, 2, 2)
	has(t, d, frames("ab", ""), frames("ab", ""))
	syncs(t, j, 2, api.OK)
	appends(t, j, "c", 3, api.OK)
	last(t, j, 3, 2)
	appends(t, j, strings.Repeat("x", 65537), 0, api.ErrMany)
	syncs(t, j, 3, api.OK)
	last(t, j, 3, 3)
	d.Crash(api.Fate{})
	d.Revive()
	opened(t, d, "ab", "", "c")
}

// TestSyncIsOneOperation, also where all is durable.
func TestSyncIsOneOperation(t *testing.T) {
	for _, n := range []int{1, 2, 3} {
		d := journal.NewDisk([]byte(frames("ab")))
		j := opened(t, d, "ab")
		d.Arm(n, api.Fate{})
		for range n - 1 {
			syncs(t, j, 1, api.OK)
		}
		syncs(t, j, 0, api.ErrDead)
		last(t, j, 1, 1)
	}
}

// TestFailureInSync: it is not done.
func TestFailureInSync(t *testing.T) {
	good, more := frames("ab"), frame(2, "two")
	for keep := -1; keep < len(more)+3; keep++ {
		d := journal.NewDisk([]byte(good))
		j := opened(t, d, "ab")
		appends(t, j, "two", 2, api.OK)
		d.Arm(1, api.Fate{Keep: keep})
		syncs(t, j, 0, api.ErrDead)
		last(t, j, 2, 1)
		dead(t, d, good+more[:min(len(more), max(0, keep))])
		last(t, j, 2, 1)
	}
}

// failures are ways in which the power of a journal's disk fails.
func failures() []func(d *journal.Disk, j *journal.Journal) {
	return []func(d *journal.Disk, j *journal.Journal){
		func(d *journal.Disk, j *journal.Journal) { d.Crash(api.Fate{}) },
		func(d *journal.Disk, j *journal.Journal) { d.Crash(api.Fate{Keep: 100}) },
		func(d *journal.Disk, j *journal.Journal) { d.Arm(1, api.Fate{Keep: 100}); j.Append([]byte("more")) },
		func(d *journal.Disk, j *journal.Journal) { d.Arm(1, api.Fate{Keep: 100}); j.Sync() },
		func(d *journal.Disk, j *journal.Journal) { d.Arm(1, api.Fate{Keep: 100}); d.Sync() },
		func(d *journal.Disk, j *journal.Journal) { d.Crash(api.Fate{}); d.Revive(); d.Crash(api.Fate{}) },
	}
}

// refuses tells that a journal does nothing any more, and what its last numbers were.
func refuses(t *testing.T, j *journal.Journal, number, durable int) {
	t.Helper()
	for range 2 {
		last(t, j, number, durable)
		appends(t, j, "more", 0, api.ErrDead)
		appends(t, j, "", 0, api.ErrDead)
		appends(t, j, strings.Repeat("x", 65537), 0, api.ErrDead) // ahead of ErrMany
		syncs(t, j, 0, api.ErrDead)
	}
	last(t, j, number, durable)
}

// TestBehindAFailure is P27.11, P27.12, P27.13: a journal refuses from then on, also when its disk was revived, and leaves the disk as it is, which another journal may have by then.
func TestBehindAFailure(t *testing.T) {
	for _, fail := range failures() {
		d := journal.NewDisk([]byte(frames("ab")))
		j := opened(t, d, "ab")
		appends(t, j, "two", 2, api.OK)
		syncs(t, j, 2, api.OK)
		appends(t, j, "three", 3, api.OK)
		fail(d, j)
		refuses(t, j, 3, 2)
		d.Revive()
		refuses(t, j, 3, 2)
		b, err := d.Bytes()
		if err != nil {
			t.Fatal(err)
		}
		if err := d.Write([]byte("end")); err != nil {
			t.Fatal(err)
		}
		d.Arm(3, api.Fate{Keep: 9})
		refuses(t, j, 3, 2)
		has(t, d, string(b)+"end", string(b))
		_, l, err := journal.Open(d) // both of its operations are ahead of the third
		if err != nil || len(l) < 2 {
			t.Fatalf("opened again: %q, %v", l, err)
		}
		refuses(t, j, 3, 2)
		has(t, d, string(b), string(b))
	}
}

// TestAnotherJournalGoesOn: the one that was opened behind the failure is in use, and the one ahead of it is not.
func TestAnotherJournalGoesOn(t *testing.T) {
	d := journal.NewDisk(nil)
	var old []*journal.Journal
	for n := range 20 {
		j, l, err := journal.Open(d)
		if len(l) != n || err != nil {
			t.Fatalf("%q, %v", l, err)
		}
		for _, o := range old {
			appends(t, o, "old", 0, api.ErrDead)
			syncs(t, o, 0, api.ErrDead)
		}
		appends(t, j, "new", n+1, api.OK)
		syncs(t, j, n+1, api.OK)
		old = append(old, j)
		d.Crash(api.Fate{})
		d.Revive()
	}
	for n, o := range old {
		last(t, o, n+1, n+1)
	}
}

// TestReviveOfALivingDisk is no failure.
func TestReviveOfALivingDisk(t *testing.T) {
	d := journal.NewDisk(nil)
	j := opened(t, d)
	appends(t, j, "ab", 1, api.OK)
	d.Arm(1, api.Fate{})
	d.Revive()
	appends(t, j, "c", 2, api.OK)
	syncs(t, j, 2, api.OK)
	last(t, j, 2, 2)
}

// TestSomebodySyncs: that is neither a Write nor a Cut; the journal goes on, and tells what its own Sync did.
func TestSomebodySyncs(t *testing.T) {
	d := journal.NewDisk(nil)
	j := opened(t, d)
	appends(t, j, "ab", 1, api.OK)
	if err := d.Sync(); err != nil {
		t.Fatal(err)
	}
	last(t, j, 1, 0)
	appends(t, j, "c", 2, api.OK)
	has(t, d, frames("ab", "c"), frames("ab"))
	syncs(t, j, 2, api.OK)
	last(t, j, 2, 2)
}
