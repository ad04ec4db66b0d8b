package journal_test

import (
	"bytes"
	"slices"
	"strings"
	"testing"

	"custody/api"
	"custody/journal"
	"custody/proof"
)

// junk is what bytes are overwritten with.
const junk = '#'

// TestGivenBytesAreNotKept is R4: they may be written over as soon as a call has answered, and are not changed.
func TestGivenBytesAreNotKept(t *testing.T) {
	given := proof.Room([]byte("abc"), junk)
	check := func(want string) {
		t.Helper()
		if string(given) != want || string(proof.Whole(given)[3:6]) != "###" {
			t.Errorf("%q is %q now", want, proof.Whole(given))
		}
		proof.Overwrite(given, junk)
	}
	d := journal.NewDisk(given)
	check("abc")
	has(t, d, "abc", "abc")

	copy(given, "def")
	if err := d.Write(given); err != nil {
		t.Fatal(err)
	}
	check("def")
	has(t, d, "abcdef", "abc")
	if err := d.Sync(); err != nil {
		t.Fatal(err)
	}
	has(t, d, "abcdef", "abcdef")

	copy(given, "ghi")
	d.Arm(1, api.Fate{Keep: 9})
	d.Write(given)
	check("ghi")
	dead(t, d, "abcdefghi")

	d = journal.NewDisk(nil)
	j := opened(t, d)
	copy(given, "jkl")
	if _, err := j.Append(given); err != nil {
		t.Fatal(err)
	}
	check("jkl")
	has(t, d, frames("jkl"), "")
	syncs(t, j, 1, api.OK)
	opened(t, d, "jkl")
}

// TestWriteIntoAnEmptyDisk keeps nothing of the bytes either.
func TestWriteIntoAnEmptyDisk(t *testing.T) {
	for _, d := range []*journal.Disk{journal.NewDisk(nil), journal.NewDisk([]byte{}), journal.NewDisk(make([]byte, 0, 100))} {
		b := proof.Room([]byte("abc"), junk)
		d.Write(b)
		proof.Overwrite(b, 'x')
		has(t, d, "abc", "")
		d.Sync()
		has(t, d, "abc", "abc")
	}
}

// TestScannedBytesAreNotKept is R4 of Scan: records are copies.
func TestScannedBytesAreNotKept(t *testing.T) {
	want := []string{"one", "", "three", strings.Repeat("x", 300)}
	b := proof.Room([]byte(frames(want...)+"\x05"), junk)
	l, _, _ := journal.Scan(b)
	proof.Overwrite(b, 'y')
	if !slices.Equal(texts(l), want) {
		t.Errorf("the records became %.20q", l)
	}
}

// TestRecordsAreApart is R4: records share no memory with one another, with those of another answer, with the bytes, or with the disk.
func TestRecordsAreApart(t *testing.T) {
	want := []string{"one", "", "three", strings.Repeat("x", 300), "", "five"}
	all := frames(want...)
	b := []byte(all)
	d := journal.NewDisk(b)
	one, _, _ := journal.Scan(b)
	two, _, _ := journal.Scan(b)
	_, three, _ := journal.Open(d)
	j, four, _ := journal.Open(d)
	for _, l := range [][][]byte{one, three} {
		proof.OverrunLists(l, junk)
		if !slices.Equal(texts(l), want) {
			t.Errorf("two records share memory: %.20q", l)
		}
		proof.SpoilLists(l, junk)
		if string(b) != all || !slices.Equal(texts(two), want) || !slices.Equal(texts(four), want) {
			t.Errorf("records are shared: %.40q, %.20q, %.20q", b, two, four)
		}
		has(t, d, all, all)
	}
	appends(t, j, "more", 7, api.OK)
	has(t, d, all+frame(7, "more"), all)
	if !slices.Equal(texts(four), want) {
		t.Errorf("the records became %.20q", four)
	}
}

// shown are bytes that a disk has answered, and what they were.
type shown struct {
	b    []byte
	want string
}

// TestBytesAreNew is P27.8 and R4: each time they are in new memory, in which nobody's writes are seen, and from which nobody writes into the disk.
func TestBytesAreNew(t *testing.T) {
	d := proof.Dice(2705)
	for range 800 {
		start := d.Bytes(d.Below(20))
		x, p := journal.NewDisk(start), newPlate(start)
		var all []shown
		keep := func(b []byte) {
			proof.Overwrite(b[len(b):], junk)
			all = append(all, shown{b, string(b)})
		}
		for range 1 + d.Below(20) {
			if b, err := x.Bytes(); err == nil {
				keep(b)
			}
			keep(x.Durable())
			if d.Below(3) == 0 { // one who was given bytes may do with them as he likes
				one := &all[d.Below(len(all))]
				proof.Overwrite(one.b, junk)
				one.want = string(one.b)
			}
			shows(t, x, p, "a disk whose bytes were shown")
			s := throwStep(&d, p)
			s.disk(x)
			s.plate(p)
			shows(t, x, p, s.name)
			for _, one := range all {
				if string(one.b) != one.want {
					t.Fatalf("%s: bytes that were shown as %q are %q", s.name, one.want, one.b)
				}
			}
		}
	}
}

// TestNobodyWritesBehindACut: durable bytes that were cut stay as they are, whatever is written in their place.
func TestNobodyWritesBehindACut(t *testing.T) {
	long := strings.Repeat("abc", 100)
	for n := range len(long) {
		for _, more := range []string{"", "x", long, strings.Repeat("y", 1000)} {
			d := journal.NewDisk(nil)
			d.Write([]byte(long))
			d.Sync()
			d.Write([]byte("not synced"))
			d.Cut(n)
			d.Write([]byte(more))
			d.Write([]byte("z"))
			has(t, d, long[:n]+more+"z", long)
			d.Crash(api.Fate{})
			dead(t, d, long)
			d.Write([]byte("w"))
			has(t, d, long+"w", long)
		}
	}
}

// TestDisksAreApart: what is asked of one disk changes no other one, though it be made of the same bytes, or of another's.
func TestDisksAreApart(t *testing.T) {
	d := proof.Dice(2706)
	for range 300 {
		start := d.Bytes(d.Below(20))
		var disks []*journal.Disk
		var plates []*plate
		add := func(b []byte) {
			disks, plates = append(disks, journal.NewDisk(b)), append(plates, newPlate(b))
		}
		add(start)
		add(start)
		for range 40 {
			if at := d.Below(len(disks)); d.Below(8) == 0 {
				b, _ := disks[at].Bytes()
				add(proof.Of(&d, b, disks[at].Durable()))
			}
			at := d.Below(len(disks))
			s := throwStep(&d, plates[at])
			if err, no := s.disk(disks[at]), s.plate(plates[at]); !proof.Tells(err, no) {
				t.Fatalf("%s: %v, not %v", s.name, err, no)
			}
			for i, x := range disks {
				shows(t, x, plates[i], "a disk beside others")
			}
		}
	}
}

// TestJournalsAreApart: what is asked of one journal, or of its disk, changes no other one.
func TestJournalsAreApart(t *testing.T) {
	d := proof.Dice(2707)
	for range 200 {
		start := throwBytes(&d)
		var all []*office
		for range 3 {
			all = append(all, &office{d: journal.NewDisk(start), p: newPlate(start)})
		}
		for range 60 {
			all[d.Below(len(all))].ask(t, &d)
			for _, o := range all {
				o.looks(t)
			}
		}
	}
}

// TestBytesOfTheDiskAreNotTheJournals: who writes into what a journal's disk has answered changes neither.
func TestBytesOfTheDiskAreNotTheJournals(t *testing.T) {
	d := journal.NewDisk(nil)
	j := opened(t, d)
	appends(t, j, "ab", 1, api.OK)
	syncs(t, j, 1, api.OK)
	appends(t, j, "c", 2, api.OK)
	b, _ := d.Bytes()
	durable := d.Durable()
	want := bytes.Clone(b)
	proof.Overwrite(durable, junk)
	if !bytes.Equal(b, want) {
		t.Errorf("bytes and durable bytes share memory: %q", b)
	}
	proof.Overwrite(b, junk)
	has(t, d, frames("ab", "c"), frames("ab"))
	appends(t, j, "three", 3, api.OK)
	opened(t, d, "ab", "c", "three")
}
