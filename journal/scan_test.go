package journal_test

import (
	"bytes"
	"math"
	"slices"
	"strings"
	"testing"

	"custody/api"
	"custody/journal"
	"custody/proof"
)

// scans holds what Scan answers against what is wanted, and against the second reckoning.
func scans(t *testing.T, b string, want []string, size int, no api.Errno) {
	t.Helper()
	given := proof.Room([]byte(b), '#')
	l, n, err := journal.Scan(given)
	if !slices.Equal(texts(l), want) || n != size || !proof.Tells(err, no) {
		t.Errorf("Scan(%.60x) is %.20q, %d, %v; want %.20q, %d, %v", b, l, n, err, want, size, no)
	}
	if string(proof.Whole(given)[:len(b)+3]) != b+"###" {
		t.Errorf("Scan(%.60x) changes its bytes", b)
	}
	if again, size, no := scanned([]byte(b)); !proof.SameLists(again, l) || size != n || !proof.Tells(err, no) {
		t.Errorf("the second reckoning of %.60x is %.20q, %d, %v; Scan's %.20q, %d, %v", b, again, size, no, l, n, err)
	}
}

// someRecords are lists of records.
func someRecords() [][]string {
	var long []string
	for n := range 300 {
		long = append(long, strings.Repeat("x", n))
	}
	return [][]string{
		nil,
		{""},
		{"ab"},
		{"ab", ""},
		{"", "", ""},
		{"one", "two", "three", "two"},
		{"\x00\x00\x00", frame(1, "in a frame"), frame(2, ""), "\xff"},
		long,
		{strings.Repeat("y", 65535), strings.Repeat("z", 65536), ""},
	}
}

// P27.9

func TestScan(t *testing.T) {
	for _, none := range [][]byte{nil, {}} {
		if l, n, err := journal.Scan(none); len(l) != 0 || n != 0 || err != nil {
			t.Errorf("Scan of nothing is %q, %d, %v", l, n, err)
		}
	}
	for _, l := range someRecords() {
		b := frames(l...)
		scans(t, b, l, len(b), api.OK)
	}
}

// TestScanOfBeginnings is P27.9 and P27.15: at each place where bytes end.
func TestScanOfBeginnings(t *testing.T) {
	for _, l := range [][]string{{""}, {"ab"}, {"ab", ""}, {"", "", ""}, {"one", "two", "three", strings.Repeat("x", 300), "two"}, {frame(1, "x"), frame(2, "y")}} {
		all := frames(l...)
		ends := map[int]int{0: 0} // behind how many records
		for n := range l {
			ends[len(frames(l[:n+1]...))] = n + 1
		}
		whole, size := 0, 0
		for at := range len(all) + 1 {
			no := api.ErrShort
			if n, ok := ends[at]; ok {
				whole, size, no = n, at, api.OK
			}
			scans(t, all[:at], l[:whole], size, no)
		}
	}
}

// brokenEnds are bytes with which no frame begins, and the error that tells it.
func brokenEnds(number uint64) []struct {
	b  string
	no api.Errno
} {
	next := frame(number, "next")
	turned := func(at int) string {
		b := []byte(next)
		b[at] ^= 4
		return string(b)
	}
	n := len(next)
	return []struct {
		b  string
		no api.Errno
	}{
		{"\x05", api.ErrShort},
		{"\xf8", api.ErrShort},
		{"\xf9\xff", api.ErrShort},
		{next[:1], api.ErrShort},
		{next[:n-5], api.ErrShort}, // no more than a part of its sum
		{next[:n-1], api.ErrShort},
		{"\xf8\x00", api.ErrForm},
		{"\xf8\xf7" + next, api.ErrForm},
		{"\xf9\x00\xff" + next, api.ErrForm},
		{"\x00\xf8\x01aaaa", api.ErrForm}, // of its number
		{"\xfa\x01\x00\x01" + next, api.ErrMany},
		{"\xff\xff\xff\xff\xff\xff\xff\xff\xff" + next, api.ErrMany},
		{turned(n - 1), api.ErrSum},
		{turned(n - 4), api.ErrSum},
		{turned(n - 5), api.ErrSum}, // the last byte of its sum
		{turned(n - 8), api.ErrSum},
		{"\x00\x00\x00\x00\x00\x00", api.ErrSum},
		{"\x00\x01\x00\x00\x00\x00", api.ErrSum},
	}
}

// otherNumbers are those of which none comes behind so many records.
func otherNumbers(records int) []uint64 {
	var l []uint64
	for _, n := range []uint64{0, 1, 2, 3, 4, 5, 6, 100, 248, 1 << 32, 1<<32 + 1, 1 << 63, math.MaxUint64} {
		if n != uint64(records+1) {
			l = append(l, n)
		}
	}
	return append(l, uint64(records+2), uint64(records), 1<<32+uint64(records+1))
}

func TestScanOfBrokenEnds(t *testing.T) {
	for _, l := range [][]string{nil, {""}, {"ab"}, {"one", "two", "three"}} {
		good := frames(l...)
		next := uint64(len(l) + 1)
		for _, x := range brokenEnds(next) {
			scans(t, good+x.b, l, len(good), x.no)
		}
		for _, n := range otherNumbers(len(l)) {
			scans(t, good+frame(n, "ab"), l, len(good), api.ErrForm)
			scans(t, good+frame(n, "")+frame(next, "behind"), l, len(good), api.ErrForm)
			for _, x := range brokenEnds(n) { // what is broken is told ahead of what has another number
				scans(t, good+x.b, l, len(good), x.no)
			}
		}
	}
}

// TestNothingIsLookedAtBehindABrokenPlace though frames with the right numbers stand there.
func TestNothingIsLookedAtBehindABrokenPlace(t *testing.T) {
	one, two, three := frame(1, "one"), frame(2, "two"), frame(3, "three")
	for at := range two {
		b := []byte(two)
		b[at] ^= 0x40
		l, n, err := journal.Scan([]byte(one + string(b) + three))
		if !slices.Equal(texts(l), []string{"one"}) || n != len(one) || err == nil {
			t.Errorf("with the byte %d turned: %q, %d, %v", at, l, n, err)
		}
	}
	scans(t, one+three+two, []string{"one"}, len(one), api.ErrForm)
	scans(t, one+one+two, []string{"one"}, len(one), api.ErrForm)
	scans(t, two+three, nil, 0, api.ErrForm)
	scans(t, " "+one, nil, 0, api.ErrShort)
}

// TestManyRecords: numbers whose forms are longer than a byte.
func TestManyRecords(t *testing.T) {
	const many = 70000
	var b bytes.Buffer
	for n := range many {
		b.Write(framed(uint64(n+1), []byte{byte(n)}))
	}
	l, size, err := journal.Scan(b.Bytes())
	if len(l) != many || size != b.Len() || err != nil {
		t.Fatalf("%d records, %d of %d bytes, %v", len(l), size, b.Len(), err)
	}
	for n, r := range l {
		if !bytes.Equal(r, []byte{byte(n)}) {
			t.Fatalf("the record %d is %q", n+1, r)
		}
	}
}
