package wire_test

import (
	"bytes"
	"cmp"
	"math"
	"testing"

	"custody/api"
	"custody/proof"
	"custody/wire"
)

// read is a call that reads: what it answers (a number, one with a sign, or a text), and what it should: that and how many bytes it takes, or an error.
type read struct {
	name string
	ask  func(r *wire.Reader) any
	want func(b []byte) (any, int, api.Errno)
}

func readUint(most uint64) read {
	return read{"Uint", func(r *wire.Reader) any { return r.Uint(most) }, func(b []byte) (any, int, api.Errno) {
		x, size, no := starts(b)
		if no == api.OK && x > most {
			return uint64(0), 0, api.ErrMany
		}
		return x, size, no
	}}
}

func readInt() read {
	return read{"Int", func(r *wire.Reader) any { return r.Int() }, func(b []byte) (any, int, api.Errno) {
		u, size, no := starts(b)
		x := int64(u >> 1)
		if u&1 == 1 {
			x = -x - 1
		}
		return x, size, no
	}}
}

func readText(most int) read {
	return read{"Text", func(r *wire.Reader) any { return r.Text(most) }, func(b []byte) (any, int, api.Errno) {
		n, size, no := starts(b)
		switch {
		case no != api.OK:
			return "", 0, no
		case most < 0 && n > 0, most >= 0 && n > uint64(most):
			return "", 0, api.ErrMany
		case n > uint64(len(b)-size):
			return "", 0, api.ErrShort
		}
		return string(b[size : size+int(n)]), size + int(n), api.OK
	}}
}

// zero is what a call answers that reads nothing.
func (c read) zero() any {
	v, _, _ := c.want(nil)
	return v
}

// does checks what a call answers at the beginning of b, and where the reader stands then.
func (c read) does(t *testing.T, b []byte) {
	t.Helper()
	r := wire.NewReader(b)
	if r.Left() != len(b) || r.Err() != nil {
		t.Fatalf("a new reader of % .20x has %d left, error %v", b, r.Left(), r.Err())
	}
	want, size, no := c.want(b)
	got := c.ask(r)
	if got != want || r.Left() != len(b)-size || !proof.Tells(r.Err(), no) {
		t.Errorf("%s of % .20x is %.20v, %d left, %v; want %.20v, %d left, %v", c.name, b, got, r.Left(), r.Err(), want, len(b)-size, no)
	}
	end := no
	if no == api.OK && size < len(b) {
		end = api.ErrLong
	}
	if !proof.Tells(r.End(), end) {
		t.Errorf("%s of % .20x: End is %v, want %v", c.name, b, r.End(), end)
	}
	if no != api.OK {
		standsStill(t, r, len(b), no)
	}
}

// standsStill checks that a reader behind its first error answers zero values, and changes no more.
func standsStill(t *testing.T, r *wire.Reader, left int, no api.Errno) {
	t.Helper()
	for _, c := range []read{readUint(math.MaxUint64), readUint(0), readInt(), readText(math.MaxInt), readText(0), readText(-1)} {
		if got := c.ask(r); got != c.zero() || r.Left() != left || !proof.Tells(r.Err(), no) || !proof.Tells(r.End(), no) {
			t.Errorf("behind the error %v %s is %.20v, %d left (want %d), %v, End %v", no, c.name, got, r.Left(), left, r.Err(), r.End())
		}
	}
}

// beginnings are all beginnings of b, itself too, and b with bytes behind it.
func beginnings(b []byte) [][]byte {
	var l [][]byte
	for i := range len(b) + 1 {
		l = append(l, b[:i])
	}
	return append(l, join(b, []byte{0}), join(b, []byte{0xff}), join(b, b))
}

// malformed are numbers of each length that have a shorter form.
func malformed() [][]byte {
	var l [][]byte
	for x := range 248 {
		l = append(l, []byte{0xf8, byte(x)})
	}
	for n := 1; n <= 8; n++ {
		for _, fill := range []byte{0, 1, 0xf8, 0xff} {
			b := append([]byte{byte(247 + n), 0}, bytes.Repeat([]byte{fill}, n-1)...)
			l = append(l, b)
		}
	}
	return l
}

// P5.2, P5.3

func TestUintReads(t *testing.T) {
	for _, x := range numbers() {
		for _, b := range beginnings(form(x)) {
			for _, most := range []uint64{0, 1, x - min(x, 1), x, x + min(math.MaxUint64-x, 1), 247, 248, math.MaxUint64} {
				readUint(most).does(t, b)
			}
		}
	}
}

func TestIntReads(t *testing.T) {
	for _, x := range signs() {
		b := form(signed(x))
		if got := wire.NewReader(b).Int(); got != x {
			t.Errorf("Int of % x is %d, want %d", b, got, x)
		}
		for _, b := range beginnings(b) {
			readInt().does(t, b)
		}
	}
	for _, x := range numbers() {
		for _, b := range beginnings(form(x)) {
			readInt().does(t, b)
		}
	}
}

func TestEveryTwoBytesAndManyMore(t *testing.T) {
	each := func(b []byte) {
		readUint(math.MaxUint64).does(t, b)
		readUint(300).does(t, b)
		readInt().does(t, b)
		readText(math.MaxInt).does(t, b)
		readText(2).does(t, b)
	}
	each(nil)
	each([]byte{})
	for x := range 256 {
		each([]byte{byte(x)})
		for y := range 256 {
			each([]byte{byte(x), byte(y)})
		}
	}
	for x := range 1 << 16 {
		readUint(math.MaxUint64).does(t, []byte{0xf9, byte(x >> 8), byte(x)})
		readUint(300).does(t, []byte{0xf8, byte(x >> 8), byte(x)})
	}
	d := roll(1)
	for range 20000 {
		b := d.Bytes(d.Below(12))
		if len(b) > 0 && d.Below(2) == 0 {
			b[0] |= 0xf8
		}
		if len(b) > 1 && d.Below(4) == 0 {
			b[1] = 0
		}
		each(b)
	}
}

func TestMalformedNumbers(t *testing.T) {
	for _, b := range malformed() {
		for _, c := range []read{readUint(math.MaxUint64), readUint(0), readInt(), readText(math.MaxInt), readText(-1)} {
			r := wire.NewReader(b)
			// Ahead of ErrMany, whatever the most.
			if got := c.ask(r); got != c.zero() || !proof.Tells(r.Err(), api.ErrForm) || r.Left() != len(b) {
				t.Errorf("%s of % x is %v, %v, %d left", c.name, b, got, r.Err(), r.Left())
			}
			// A byte less is too short, which is told ahead of the form.
			r = wire.NewReader(b[:len(b)-1])
			if got := c.ask(r); got != c.zero() || !proof.Tells(r.Err(), api.ErrShort) || r.Left() != len(b)-1 {
				t.Errorf("%s of % x is %v, %v, %d left", c.name, b[:len(b)-1], got, r.Err(), r.Left())
			}
			for _, more := range beginnings(b) {
				c.does(t, more)
			}
		}
	}
}

func TestAReaderStandsBehindWhatItRead(t *testing.T) {
	b := join(form(5), form(300), text("abc"), form(signed(-7)), []byte{0xf8, 0xf7, 1, 2})
	r := wire.NewReader(b)
	if x := r.Uint(5); x != 5 || r.Left() != 12 {
		t.Error(x, r.Left())
	}
	if x := r.Uint(300); x != 300 || r.Left() != 9 {
		t.Error(x, r.Left())
	}
	if s := r.Text(3); s != "abc" || r.Left() != 5 {
		t.Error(s, r.Left())
	}
	if !proof.Tells(r.End(), api.ErrLong) || r.Err() != nil { // End asks, and keeps nothing
		t.Error(r.End(), r.Err())
	}
	x := r.Int()
	// f8 f7 is left, which is no form: here it stays, though 1 and 2 could be read behind it.
	if x != -7 || r.Left() != 4 || r.Uint(math.MaxUint64) != 0 {
		t.Error(x, r.Left())
	}
	standsStill(t, r, 4, api.ErrForm)
}

func TestTheFirstErrorStays(t *testing.T) {
	for _, x := range []struct {
		b  []byte
		c  read
		no api.Errno
	}{
		{[]byte{7, 1, 'a'}, readUint(6), api.ErrMany}, // Uint(7), Int and so on could read on
		{[]byte{1, 'a', 2}, readText(0), api.ErrMany},
		{[]byte{1, 'a', 2}, readText(-1), api.ErrMany},
		{[]byte{3, 'a', 2}, readText(3), api.ErrShort},
		{[]byte{0xf9, 3}, readInt(), api.ErrShort},
		{[]byte{0xf8, 0, 1}, readInt(), api.ErrForm},
		{nil, readText(3), api.ErrShort},
	} {
		r := wire.NewReader(x.b)
		if got := x.c.ask(r); got != x.c.zero() || !proof.Tells(r.Err(), x.no) {
			t.Errorf("%s of % x is %v, %v", x.c.name, x.b, got, r.Err())
		}
		standsStill(t, r, len(x.b), x.no)
		standsStill(t, r, len(x.b), x.no)
	}
}

func TestAReaderKeepsItsOwnBytes(t *testing.T) {
	want := join(form(300), text("abc"), form(signed(-1000)))
	b, room := roomy(want)
	r := wire.NewReader(b)
	other := wire.NewReader(b)
	if r.Uint(300) != 300 || !bytes.Equal(b, want) || !untouched(room) {
		t.Error("a reader changes its bytes")
	}
	spoil(b)
	if s, x := r.Text(3), r.Int(); s != "abc" || x != -1000 || r.End() != nil {
		t.Error("bytes changed behind NewReader change what is read:", s, x, r.End())
	}
	if other.Left() != len(want) || other.Uint(300) != 300 {
		t.Error("a reader moves another one")
	}
}

func TestATextIsNewMemory(t *testing.T) {
	w := wire.NewWriter()
	w.Text("abc")
	b := w.Done()
	s := wire.NewReader(b).Text(3)
	spoil(b)
	if s != "abc" {
		t.Error("a text shares memory with its bytes:", s)
	}
}

// P5.4

func TestTextReads(t *testing.T) {
	for _, s := range texts() {
		n, whole := len(s), text(s)
		if got := wire.NewReader(whole).Text(n); got != s {
			t.Errorf("Text of %d bytes is %.20q, want %.20q", n, got, s)
		}
		for _, most := range []int{math.MinInt, -1, 0, 1, n - 1, n, n + 1, math.MaxInt} {
			for _, cut := range []int{0, 1, min(2, len(whole)), len(whole) / 2, len(whole) - 1, len(whole)} {
				readText(most).does(t, whole[:cut])
			}
			readText(most).does(t, join(whole, []byte{0}))
		}
	}
}

func TestTextsOfManyBytes(t *testing.T) {
	for _, x := range []struct {
		n    uint64
		most int
		no   api.Errno
	}{
		{math.MaxUint64, math.MaxInt, api.ErrMany},
		{math.MaxUint64, -1, api.ErrMany},
		{math.MaxUint64, math.MinInt, api.ErrMany},
		{1 << 63, math.MaxInt, api.ErrMany},
		{1<<63 - 1, math.MaxInt, api.ErrShort},
		{1<<63 - 1, math.MaxInt - 1, api.ErrMany},
		{1 << 40, 1 << 40, api.ErrShort},
	} {
		b := join(form(x.n), []byte("ab"))
		r := wire.NewReader(b)
		if s := r.Text(x.most); s != "" || !proof.Tells(r.Err(), x.no) || r.Left() != len(b) {
			t.Errorf("Text(%d) of %d bytes is %q, %v, %d left; want %v", x.most, x.n, s, r.Err(), r.Left(), x.no)
		}
		readText(x.most).does(t, b)
	}
}

func TestReadExamples(t *testing.T) {
	for _, x := range []struct {
		b  []byte
		no api.Errno
	}{
		{[]byte{0xf8, 0xf7}, api.ErrForm},
		{[]byte{0xf9, 0x00, 0xff}, api.ErrForm},
		{[]byte{0xf9, 0x01, 0x2d}, api.ErrMany},
		{[]byte{0xf9, 0x01}, api.ErrShort},
		{nil, api.ErrShort},
	} {
		r := wire.NewReader(x.b)
		if n := r.Uint(300); n != 0 || !proof.Tells(r.Err(), x.no) {
			t.Errorf("Uint(300) of % x is %d, %v", x.b, n, r.Err())
		}
	}
	r := wire.NewReader([]byte{3, 0x61, 0x62, 0x63})
	if s := r.Text(2); s != "" || !proof.Tells(r.Err(), api.ErrMany) {
		t.Error(s, r.Err())
	}
	r = wire.NewReader([]byte{3, 0x61}) // too many ahead of too short
	if s := r.Text(2); s != "" || !proof.Tells(r.Err(), api.ErrMany) {
		t.Error(s, r.Err())
	}
	r = wire.NewReader([]byte{2, 0x61})
	if s := r.Text(2); s != "" || !proof.Tells(r.Err(), api.ErrShort) {
		t.Error(s, r.Err())
	}
	r = wire.NewReader([]byte{2, 0x61, 0x62, 0x63})
	if s := r.Text(2); s != "ab" || !proof.Tells(r.End(), api.ErrLong) || r.Err() != nil {
		t.Error(s, r.End(), r.Err())
	}
}

// P5.5

func TestEnd(t *testing.T) {
	r := wire.NewReader([]byte{1, 2})
	for _, want := range []api.Errno{api.ErrLong, api.ErrLong, api.OK} {
		if !proof.Tells(r.End(), want) || !proof.Tells(r.End(), want) || r.Err() != nil {
			t.Errorf("with %d bytes left End is %v, Err %v", r.Left(), r.End(), r.Err())
		}
		if want != api.OK && r.Uint(2) == 0 {
			t.Error("behind End a reader reads no more")
		}
	}
	if r.Int() != 0 || !proof.Tells(r.End(), api.ErrShort) {
		t.Error(r.End())
	}
	for _, b := range [][]byte{nil, {}} {
		if r := wire.NewReader(b); r.End() != nil || r.Left() != 0 || r.Err() != nil {
			t.Error(r.End(), r.Left(), r.Err())
		}
	}
}

// P5.9

// step is one write, and the read that is its like.
type step struct {
	kind int
	u    uint64
	i    int64
	s    string
}

func (d *dice) step() step {
	x := step{kind: d.Below(3), u: d.number(), i: int64(d.number())}
	if d.Below(2) == 0 {
		x.i = ^x.i
	}
	x.s = string(d.Bytes(d.Below(10)))
	if d.Below(20) == 0 {
		x.s = string(d.Bytes(d.Below(600)))
	}
	return x
}

func (x step) write(w *wire.Writer) {
	switch x.kind {
	case 0:
		w.Uint(x.u)
	case 1:
		w.Int(x.i)
	default:
		w.Text(x.s)
	}
}

// same tells whether the same is read, with a most that is just enough.
func (x step) same(r *wire.Reader) bool {
	switch x.kind {
	case 0:
		return r.Uint(x.u) == x.u
	case 1:
		return r.Int() == x.i
	}
	return r.Text(len(x.s)) == x.s
}

func TestWhatIsWrittenIsRead(t *testing.T) {
	d := roll(2)
	for range 3000 {
		w := wire.NewWriter()
		row := make([]step, d.Below(20))
		for i := range row {
			row[i] = d.step()
			row[i].write(w)
		}
		r := wire.NewReader(w.Done())
		for _, x := range row {
			if !x.same(r) || r.Err() != nil {
				t.Fatalf("%+v is not read as it was written: %v", x, r.Err())
			}
		}
		if r.End() != nil || r.Left() != 0 {
			t.Fatalf("behind a row of %d End is %v", len(row), r.End())
		}
	}
}

// copied reads one thing and writes the same.
func copied(r *wire.Reader, w *wire.Writer, kind int) {
	switch kind {
	case 0:
		w.Uint(r.Uint(math.MaxUint64))
	case 1:
		w.Int(r.Int())
	default:
		w.Text(r.Text(math.MaxInt))
	}
}

func TestWhatIsReadIsWritten(t *testing.T) {
	d := roll(3)
	whole := 0
	for range 30000 {
		b := d.Bytes(d.Below(10))
		for i := range b {
			if d.Below(2) == 0 {
				b[i] = byte([]int{0, 1, 2, 0xf7, 0xf8, 0xf9, 0xff}[d.Below(7)])
			}
		}
		r, w := wire.NewReader(b), wire.NewWriter()
		for r.Left() > 0 && r.Err() == nil {
			copied(r, w, d.Below(3))
		}
		if r.End() != nil {
			continue
		}
		whole++
		if got := w.Done(); !bytes.Equal(got, b) {
			t.Fatalf("% x is read to its end, and written as % x", b, got)
		}
	}
	if whole < 5000 {
		t.Errorf("only %d were read to their end", whole)
	}
}

// P5.10

func TestTheOrderOfForms(t *testing.T) {
	written := func(x uint64) []byte {
		w := wire.NewWriter()
		w.Uint(x)
		return w.Done()
	}
	check := func(x, y uint64) {
		t.Helper()
		a, b := written(x), written(y)
		if bytes.Compare(a, b) != cmp.Compare(x, y) {
			t.Errorf("% x and % x stand otherwise than %d and %d", a, b, x, y)
		}
		if x != y && (bytes.HasPrefix(a, b) || bytes.HasPrefix(b, a)) {
			t.Errorf("of % x and % x one begins with the other", a, b)
		}
	}
	for _, x := range numbers() {
		for _, y := range numbers() {
			check(x, y)
		}
	}
	for x := range uint64(66000) {
		check(x, x+1)
	}
	d := roll(4)
	for range 20000 {
		check(d.number(), d.number())
	}
}
