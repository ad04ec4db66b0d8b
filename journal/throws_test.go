package journal_test

import (
	"math"
	"testing"

	"custody/api"
	"custody/journal"
	"custody/proof"
)

// throwKeep is a fate's: mostly of about so many bytes.
func throwKeep(d *proof.Dice, many int) int {
	return proof.Of(d, 0, 1, d.Below(many+2), d.Below(many+2), d.Below(many+2), -1, d.Number(), math.MaxInt)
}

// throwStep is any step of a disk; mostly one of a living disk.
func throwStep(d *proof.Dice, p *plate) step {
	many := len(p.now())
	switch d.Below(16) {
	case 0, 1, 2, 3, 4:
		return write(string(d.Bytes(proof.Of(d, 0, 1, 1+d.Below(8), d.Below(40)))))
	case 5, 6, 7:
		return cut(proof.Of(d, d.Below(many+1), d.Below(many+1), d.Below(many+1), max(0, many-d.Below(4)), d.Number()))
	case 8, 9, 10:
		return sync()
	case 11:
		return arm(proof.Of(d, 1+d.Below(6), 1+d.Below(6), d.Number()), throwKeep(d, many))
	case 12:
		return crash(throwKeep(d, many))
	}
	if p.dead || d.Below(20) == 0 {
		return revive()
	}
	return write(string(d.Bytes(d.Below(10))))
}

// outcomes count what became of steps, and how often a failure left all, some or none of what was not synced.
type outcomes struct{ done, wrong, dead, failed, all, some, none int }

func (o *outcomes) count(no api.Errno, ahead, p *plate) {
	switch {
	case no == api.ErrArg:
		o.wrong++
	case ahead.dead && no == api.ErrDead:
		o.dead++
	case no == api.OK:
		o.done++
	}
	if p.failures == ahead.failures || len(ahead.had) < 2 {
		return
	}
	o.failed++
	switch now, was := string(p.now()), string(ahead.now()); {
	case now == was:
		o.all++
	case now == string(ahead.durable()):
		o.none++
	default:
		o.some++
	}
}

func (o outcomes) haveSeen(t *testing.T, many int) {
	t.Helper()
	if min(o.done, o.wrong, o.dead, o.failed, o.all, o.some, o.none) < many {
		t.Errorf("too few of some outcomes: %+v", o)
	}
}

// TestThrownDisks is P27.1 to P27.8, against the second reckoning.
func TestThrownDisks(t *testing.T) {
	d := proof.Dice(2701)
	var seen outcomes
	for range 6000 {
		start := d.Bytes(d.Below(20))
		x, p := journal.NewDisk(start), newPlate(start)
		var l []step
		for range 1 + d.Below(40) {
			s := throwStep(&d, p)
			l = append(l, s)
			ahead := *p
			no := s.plate(p)
			if err := s.disk(x); !proof.Tells(err, no) {
				t.Fatalf("%s: %v, not %v", names(l), err, no)
			}
			shows(t, x, p, names(l))
			seen.count(no, &ahead, p)
		}
	}
	seen.haveSeen(t, 1000)
}

// throwRecord is a record: mostly a short one.
func throwRecord(d *proof.Dice) []byte {
	return d.Bytes(proof.Of(d, 0, 1, d.Below(10), d.Below(10), d.Below(10), 246+d.Below(6), d.Below(600)))
}

// throwBytes are frames in a row, of which something may be wrong.
func throwBytes(d *proof.Dice) []byte {
	var b []byte
	many := d.Below(6)
	for n := range many {
		number := uint64(n + 1)
		if d.Below(30) == 0 {
			number = proof.Of(d, number-1, number+1, d.Next())
		}
		b = append(b, framed(number, throwRecord(d))...)
	}
	switch d.Below(6) {
	case 0:
		b = b[:d.Below(len(b)+1)]
	case 1:
		if len(b) > 0 {
			b[d.Below(len(b))] ^= byte(1 + d.Below(255))
		}
	case 2:
		b = append(b, d.Bytes(d.Below(12))...)
	case 3:
		for _, x := range brokenEnds(uint64(many + 1)) {
			if d.Below(18) == 0 {
				b = append(b, x.b...)
				break
			}
		}
	}
	return b
}

// TestThrownScans is P27.9, against the second reckoning.
func TestThrownScans(t *testing.T) {
	d := proof.Dice(2702)
	seen := map[api.Errno]int{}
	for range 40000 {
		b := throwBytes(&d)
		l, size, no := scanned(b)
		scans(t, string(b), texts(l), size, no)
		seen[no]++
	}
	for _, no := range []api.Errno{api.OK, api.ErrShort, api.ErrForm, api.ErrMany, api.ErrSum} {
		if seen[no] < 200 {
			t.Errorf("%v was told %d times", no, seen[no])
		}
	}
}

// office is a disk with its journals, and the second reckoning of all of them.
type office struct {
	d *journal.Disk
	p *plate
	j *journal.Journal
	s *scroll
}

// throwOffice is one on whose disk anything may stand, and on which no journal is open.
func throwOffice(d *proof.Dice) *office {
	start := proof.Of(d, nil, nil, throwBytes(d))
	return &office{d: journal.NewDisk(start), p: newPlate(start)}
}

// open opens a journal: the number of the error.
func (o *office) open(t *testing.T) api.Errno {
	t.Helper()
	j, l, err := journal.Open(o.d)
	s, want, no := openScroll(o.p)
	if !proof.SameLists(l, want) || !proof.Tells(err, no) || (j == nil) != (s == nil) {
		t.Fatalf("Open is %.20q, %v; want %.20q, %v", l, err, want, no)
	}
	if j != nil {
		o.j, o.s = j, s
	}
	return no
}

// ask asks any one thing of both: the number of the error.
func (o *office) ask(t *testing.T, d *proof.Dice) api.Errno {
	t.Helper()
	if o.j == nil {
		return o.open(t)
	}
	n, want, err, no := 0, 0, error(nil), api.OK
	switch d.Below(12) {
	case 0, 1, 2, 3, 4:
		r := throwRecord(d)
		if d.Below(20) == 0 {
			r = make([]byte, 65537)
		}
		n, err = o.j.Append(r)
		want, no = o.s.append(r)
	case 5, 6, 7:
		n, err = o.j.Sync()
		want, no = o.s.sync()
	case 8:
		s := arm(1+d.Below(6), throwKeep(d, 20))
		err, no = s.disk(o.d), s.plate(o.p)
	case 9:
		s := proof.Of(d, crash(throwKeep(d, 20)), revive(), sync())
		err, no = s.disk(o.d), s.plate(o.p)
	case 10:
		if o.p.failures != o.s.failures {
			o.d.Revive()
			o.p.revive()
		}
	case 11:
		if o.p.failures != o.s.failures || d.Below(4) == 0 {
			return o.open(t)
		}
	}
	if n != want || !proof.Tells(err, no) {
		t.Fatalf("it is %d, %v; want %d, %v", n, err, want, no)
	}
	return no
}

// looks holds all that can be seen against the second reckoning.
func (o *office) looks(t *testing.T) {
	t.Helper()
	shows(t, o.d, o.p, "a journal's disk")
	if o.j != nil {
		last(t, o.j, o.s.last, o.s.durable)
	}
}

// TestThrownJournals is P27.10 to P27.13, against the second reckoning.
func TestThrownJournals(t *testing.T) {
	d := proof.Dice(2703)
	seen := map[api.Errno]int{}
	opened, failed := 0, 0
	for range 6000 {
		o := throwOffice(&d)
		for range 1 + d.Below(50) {
			was := o.s
			no := o.ask(t, &d)
			seen[no]++
			o.looks(t)
			if o.s != was {
				opened++
			}
		}
		failed += o.p.failures
	}
	if seen[api.OK] < 10000 || seen[api.ErrDead] < 2000 || seen[api.ErrMany] < 500 || opened < 5000 || failed < 5000 {
		t.Errorf("seen %v, opened %d, failed %d times", seen, opened, failed)
	}
}

// TestSomebodyElseWrites: of journals on whose disk others write and cut, other journals too, the calls still end and none panics.
func TestSomebodyElseWrites(t *testing.T) {
	d := proof.Dice(2704)
	for range 3000 {
		o := throwOffice(&d)
		var all []*journal.Journal
		for range 1 + d.Below(30) {
			if len(all) == 0 || d.Below(6) == 0 {
				if j, _, err := journal.Open(o.d); err == nil {
					all = append(all, j)
				}
				o.d.Revive()
				continue
			}
			throwStep(&d, o.p).disk(o.d)
			j := all[d.Below(len(all))]
			j.Append(throwRecord(&d))
			throwStep(&d, o.p).disk(o.d)
			j.Sync()
			j.Last()
		}
	}
}
