package journal_test

import (
	"bytes"
	"slices"
	"testing"

	"custody/api"
	"custody/journal"
	"custody/proof"
)

// witness sees a journal's answers alone, and knows by them what there must be when it is opened again.
type witness struct {
	d        *journal.Disk
	j        *journal.Journal
	records  [][]byte // those that the last Open answered, and what was appended behind them
	promised int      // how many of them must be there
}

// open opens the journal again, if the power lasts, and holds what is there against P27.14 and P27.15.
func (w *witness) open(t *testing.T) bool {
	t.Helper()
	j, l, err := journal.Open(w.d)
	if err != nil {
		return false
	}
	if len(l) < w.promised || len(l) > len(w.records) || !proof.SameLists(l, w.records[:len(l)]) {
		t.Fatalf("Open is %.20q; appended were %.20q, of which %d are durable", l, w.records, w.promised)
	}
	b, err := w.d.Bytes()
	if again, size, no := journal.Scan(b); err != nil || !proof.SameLists(again, l) || size != len(b) || no != nil {
		t.Fatalf("behind Open %.20q is on the disk, in %d of %d bytes, %v", again, size, len(b), no)
	}
	if !bytes.Equal(w.d.Durable(), b) {
		t.Fatalf("behind Open %.40x is durable, and there is %.40x", w.d.Durable(), b)
	}
	w.j, w.records, w.promised = j, l, len(l)
	return true
}

// append appends a record. The one in which the power fails counts too.
func (w *witness) append(t *testing.T, r []byte) {
	t.Helper()
	n, err := w.j.Append(r)
	if len(r) > api.MaxFrame {
		if n != 0 || err == nil {
			t.Fatalf("Append of %d bytes is %d, %v", len(r), n, err)
		}
		return
	}
	w.records = append(w.records, bytes.Clone(r))
	if err == nil && n != len(w.records) {
		t.Fatalf("the record %d has the number %d", len(w.records), n)
	}
}

// sync syncs the journal.
func (w *witness) sync(t *testing.T) {
	t.Helper()
	n, err := w.j.Sync()
	if err != nil {
		return
	}
	if w.promised = len(w.records); n != w.promised {
		t.Fatalf("Sync is %d, behind %d records", n, w.promised)
	}
}

// TestAnsweredIsKept is P27.14: wherever and however often the power fails.
func TestAnsweredIsKept(t *testing.T) {
	d := proof.Dice(2711)
	var opens, fewer, all, torn int
	for range 3000 {
		w := &witness{d: journal.NewDisk(nil)}
		w.open(t)
		for range 1 + d.Below(12) {
			w.live(t, &d)
			w.d.Crash(api.Fate{Keep: throwKeep(&d, 40)})
			b := w.d.Durable()
			if _, size, _ := journal.Scan(b); size < len(b) {
				torn++
			}
			had, promised := len(w.records), w.promised
			w.openAtLast(t, &d)
			opens++
			switch {
			case promised < len(w.records) && len(w.records) < had:
				fewer++
			case len(w.records) == had && promised < had:
				all++
			}
		}
	}
	if opens < 10000 || fewer < 500 || all < 500 || torn < 1000 {
		t.Errorf("opened %d times: %d times a part of what wasn't durable was there, %d times all of it; %d times an end was torn", opens, fewer, all, torn)
	}
}

// live appends and syncs till the power has failed, or longer.
func (w *witness) live(t *testing.T, d *proof.Dice) {
	t.Helper()
	if d.Below(3) > 0 {
		w.d.Arm(1+d.Below(12), api.Fate{Keep: throwKeep(d, 40)})
	}
	for range d.Below(15) {
		if _, err := w.d.Bytes(); err != nil {
			return
		}
		switch n := d.Below(100); {
		case n == 0:
			w.append(t, make([]byte, api.MaxFrame+d.Below(2)))
		case n < 30:
			w.sync(t)
		default:
			w.append(t, throwRecord(d))
		}
	}
}

// openAtLast revives the disk, and opens its journal, as often as the power fails in it.
func (w *witness) openAtLast(t *testing.T, d *proof.Dice) {
	t.Helper()
	for tries := 0; ; tries++ {
		w.d.Revive()
		if tries < 4 && d.Below(2) == 0 {
			w.d.Arm(1+d.Below(3), api.Fate{Keep: throwKeep(d, 40)})
		}
		if w.open(t) {
			return
		}
	}
}

// TestFailureAnywhere is P27.14: one play, with each failure in each of its operations, and another failure behind it.
func TestFailureAnywhere(t *testing.T) {
	for first := 1; first < 14; first++ {
		for keep := range 30 {
			for second := 1; second < 6; second++ {
				w := &witness{d: journal.NewDisk(nil)}
				w.d.Arm(first, api.Fate{Keep: keep})
				for n := range 3 {
					if !w.open(t) {
						w.d.Revive()
						w.open(t)
					}
					for _, r := range []string{"ab", "", "three", "four"} {
						w.append(t, []byte(r))
						if len(r) == 0 {
							w.sync(t)
						}
					}
					if _, err := w.d.Bytes(); err != nil {
						w.d.Revive()
						w.d.Arm(second, api.Fate{Keep: keep * n})
					}
				}
				w.d.Revive()
				w.open(t)
			}
		}
	}
}

// TestBeginnings is P27.15: of any bytes, those that are right and those that aren't.
func TestBeginnings(t *testing.T) {
	d := proof.Dice(2712)
	whole, broken := 0, 0
	for range 400 {
		b := throwBytes(&d)
		all, size, err := journal.Scan(b)
		if err == nil {
			whole++
		} else {
			broken++
		}
		if again, more, no := journal.Scan(b[:size]); !proof.SameLists(again, all) || more != size || no != nil {
			t.Fatalf("Scan of %.60x is %.20q, %d, %v; of what it read %.20q, %d, %v", b, all, size, err, again, more, no)
		}
		for n := range len(b) {
			l, at, _ := journal.Scan(b[:n])
			if len(l) > len(all) || !proof.SameLists(l, all[:len(l)]) || at != min(at, n, size) {
				t.Fatalf("Scan of %.60x is %.20q, %d; of all of %.60x %.20q, %d", b[:n], l, at, b, all, size)
			}
		}
	}
	if whole < 100 || broken < 100 {
		t.Errorf("%d were whole, %d broken", whole, broken)
	}
}

// TestScanOfFrames is P27.15: the frames of any records are those records.
func TestScanOfFrames(t *testing.T) {
	d := proof.Dice(2713)
	for range 3000 {
		var want []string
		for range d.Below(12) {
			want = append(want, string(throwRecord(&d)))
		}
		b := frames(want...)
		scans(t, b, want, len(b), api.OK)
	}
}

// TestOpenBehindSync is P27.16: without a failure all that was appended is there; behind an Open or two, too.
func TestOpenBehindSync(t *testing.T) {
	d := proof.Dice(2714)
	for range 1000 {
		disk := journal.NewDisk(nil)
		var want [][]byte
		for range 1 + d.Below(4) {
			j, l, err := journal.Open(disk)
			if err != nil || !proof.SameLists(l, want) {
				t.Fatalf("Open is %.20q, %v; want %.20q", l, err, want)
			}
			for range d.Below(10) {
				want = append(want, throwRecord(&d))
				j.Append(want[len(want)-1])
				if d.Below(4) == 0 {
					j.Sync()
				}
			}
			syncs(t, j, len(want), api.OK)
		}
		disk.Crash(api.Fate{Keep: throwKeep(&d, 40)})
		disk.Revive()
		if _, l, err := journal.Open(disk); err != nil || !proof.SameLists(l, want) {
			t.Fatalf("behind a failure Open is %.20q, %v; want %.20q", l, err, want)
		}
	}
}

// TestSameTwice is R5: what was asked is answered the same again.
func TestSameTwice(t *testing.T) {
	run := func(seed int) []string {
		d := proof.Dice(seed)
		w := &witness{d: journal.NewDisk(nil)}
		w.open(t)
		var seen []string
		for range 10 {
			w.live(t, &d)
			w.d.Crash(api.Fate{Keep: throwKeep(&d, 40)})
			w.openAtLast(t, &d)
			seen = append(seen, string(w.d.Durable()))
		}
		return seen
	}
	for seed := range 100 {
		if a, b := run(seed), run(seed); !slices.Equal(a, b) {
			t.Fatalf("%.40q, then %.40q", a, b)
		}
	}
}
