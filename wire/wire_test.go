package wire_test

import (
	"bytes"
	"fmt"
	"math"
	"math/big"
	"slices"
	"strings"
	"testing"

	"custody/api"
	"custody/proof"
	"custody/wire"
)

// dice draws what this layer is asked with.
type dice struct{ proof.Dice }

func roll(seed uint64) *dice { return &dice{proof.Dice(seed)} }

// number is one of any length in bits, as likely a short one as a long one.
func (d *dice) number() uint64 { return d.Next() >> d.Below(64) }

// spoil overwrites a list and its spare room, as one who was given it may.
func spoil(b []byte) {
	b = b[:cap(b)]
	for i := range b {
		b[i] ^= 0xa5
	}
}

// roomy is a copy of b with spare room behind it, and that room.
func roomy(b []byte) (list, room []byte) {
	list = append(make([]byte, 0, len(b)+20), b...)
	room = list[len(b):cap(list)]
	for i := range room {
		room[i] = 0x5c
	}
	return list, room
}

func untouched(room []byte) bool { return bytes.Count(room, []byte{0x5c}) == len(room) }

// join is lists one behind the other.
func join(lists ...[]byte) []byte { return slices.Concat(lists...) }

// A second reckoning of the forms, with numbers that have no bounds.

// form is a number's form.
func form(x uint64) []byte {
	if x <= 0xf7 {
		return []byte{byte(x)}
	}
	b := new(big.Int).SetUint64(x).Bytes() // the highest first, none of them 0 ahead
	return append([]byte{byte(0xf7 + len(b))}, b...)
}

// signed is the number as which x is written.
func signed(x int64) uint64 {
	n := new(big.Int).Mul(big.NewInt(x), big.NewInt(2))
	if n.Sign() < 0 {
		n.Neg(n).Sub(n, big.NewInt(1))
	}
	return n.Uint64()
}

// text is how a text is written.
func text(s string) []byte { return join(form(uint64(len(s))), []byte(s)) }

// starts is the form with which b begins: its number, how many bytes it has, or the error.
func starts(b []byte) (uint64, int, api.Errno) {
	if len(b) == 0 {
		return 0, 0, api.ErrShort
	}
	size := 1
	if b[0] >= 0xf8 {
		size += int(b[0]) - 247
	}
	if len(b) < size {
		return 0, 0, api.ErrShort
	}
	x := uint64(b[0])
	if size > 1 {
		x = new(big.Int).SetBytes(b[1:size]).Uint64()
	}
	if !bytes.Equal(form(x), b[:size]) {
		return 0, 0, api.ErrForm
	}
	return x, size, api.OK
}

// numbers are the ends of each length of a form, and what lies beside them.
func numbers() []uint64 {
	l := []uint64{0, 1, 2, 127, 128, 246, 247, 248, 249, 254, 255, 256, 257, 1<<63 - 1, 1 << 63, 1<<63 + 1, math.MaxUint64 - 1, math.MaxUint64}
	for bits := 16; bits < 64; bits += 8 {
		l = append(l, 1<<bits-2, 1<<bits-1, 1<<bits, 1<<bits+1)
	}
	return l
}

// signs are numbers with a sign: the ends, those at which a form becomes longer, and what lies beside them.
func signs() []int64 {
	l := []int64{0, 1, -1, 2, -2, 123, 124, 125, -123, -124, -125, 127, 128, -127, -128, -129, math.MaxInt64, math.MaxInt64 - 1, math.MinInt64, math.MinInt64 + 1}
	for bits := 14; bits < 63; bits++ {
		l = append(l, 1<<bits-1, 1<<bits, -1<<bits, -1<<bits-1)
	}
	return l
}

// texts are texts at the lengths at which a form becomes longer, with bytes that are no text.
func texts() []string {
	l := []string{"", "ab", "\x00", "\xff\xfe", "€ \xe2\x82", "\xf8\xf8"}
	for _, n := range []int{1, 246, 247, 248, 249, 255, 256, 257, 65535, 65536, 70000} {
		l = append(l, strings.Repeat("a", n), strings.Repeat("\xff", n), strings.Repeat("\x00", n))
	}
	return l
}

// P5.1

func TestUintWrites(t *testing.T) {
	for _, x := range numbers() {
		w := wire.NewWriter()
		w.Uint(x)
		if b := w.Done(); !bytes.Equal(b, form(x)) {
			t.Errorf("Uint(%d) is % x, want % x", x, b, form(x))
		}
	}
	for x := range uint64(70000) {
		w := wire.NewWriter()
		w.Uint(x)
		if b := w.Done(); !bytes.Equal(b, form(x)) {
			t.Fatalf("Uint(%d) is % x, want % x", x, b, form(x))
		}
	}
}

func TestIntWrites(t *testing.T) {
	check := func(x int64) {
		t.Helper()
		w := wire.NewWriter()
		w.Int(x)
		if b, want := w.Done(), form(signed(x)); !bytes.Equal(b, want) {
			t.Errorf("Int(%d) is % x, want % x", x, b, want)
		}
	}
	for _, x := range signs() {
		check(x)
	}
	for x := range int64(1000) {
		check(x)
		check(-x)
	}
}

func TestTextWrites(t *testing.T) {
	for _, s := range texts() {
		w := wire.NewWriter()
		w.Text(s)
		if !bytes.Equal(w.Done(), text(s)) {
			t.Errorf("Text of %d bytes, %.5q, is another", len(s), s)
		}
	}
}

func TestWrittenExamples(t *testing.T) {
	for _, x := range []struct {
		write func(w *wire.Writer)
		want  string
	}{
		{func(w *wire.Writer) {}, ""},
		{func(w *wire.Writer) { w.Uint(0) }, "00"},
		{func(w *wire.Writer) { w.Uint(247) }, "f7"},
		{func(w *wire.Writer) { w.Uint(248) }, "f8 f8"},
		{func(w *wire.Writer) { w.Uint(255) }, "f8 ff"},
		{func(w *wire.Writer) { w.Uint(256) }, "f9 01 00"},
		{func(w *wire.Writer) { w.Uint(1<<64 - 1) }, "ff ff ff ff ff ff ff ff ff"},
		{func(w *wire.Writer) { w.Uint(0x0102030405060708) }, "ff 01 02 03 04 05 06 07 08"},
		{func(w *wire.Writer) { w.Int(0) }, "00"},
		{func(w *wire.Writer) { w.Int(-1) }, "01"},
		{func(w *wire.Writer) { w.Int(1) }, "02"},
		{func(w *wire.Writer) { w.Int(-124) }, "f7"},
		{func(w *wire.Writer) { w.Int(124) }, "f8 f8"},
		{func(w *wire.Writer) { w.Int(-1 << 63) }, "ff ff ff ff ff ff ff ff ff"},
		{func(w *wire.Writer) { w.Int(1<<63 - 1) }, "ff ff ff ff ff ff ff ff fe"},
		{func(w *wire.Writer) { w.Text("") }, "00"},
		{func(w *wire.Writer) { w.Text("ab") }, "02 61 62"},
		{func(w *wire.Writer) { w.Text("ab"); w.Uint(248); w.Int(-1); w.Text("") }, "02 61 62 f8 f8 01 00"},
	} {
		w := wire.NewWriter()
		x.write(w)
		if got := fmt.Sprintf("% x", w.Done()); got != x.want {
			t.Errorf("written is %s, want %s", got, x.want)
		}
	}
}

func TestDoneIsAllAsOftenAsAsked(t *testing.T) {
	w := wire.NewWriter()
	var want []byte
	check := func() {
		t.Helper()
		for range 2 {
			if b := w.Done(); !bytes.Equal(b, want) {
				t.Errorf("Done is % x, want % x", b, want)
			}
		}
	}
	check()
	for _, x := range numbers() {
		w.Uint(x)
		want = append(want, form(x)...)
		check()
		w.Text("ab")
		want = append(want, 2, 'a', 'b')
		w.Int(-1)
		want = append(want, 1)
		check()
	}
}

func TestDoneIsNewMemory(t *testing.T) {
	w := wire.NewWriter()
	var want []byte
	for i := range 300 { // many lengths, so that the spare room of what is kept has many
		w.Uint(uint64(i))
		want = append(want, form(uint64(i))...)
		first, second := w.Done(), w.Done()
		spoil(first)
		if !bytes.Equal(second, want) {
			t.Fatalf("behind %d numbers one answer changes the other", i+1)
		}
		spoil(second)
		w.Text("a")
		want = append(want, 1, 'a')
		if !bytes.Equal(w.Done(), want) {
			t.Fatalf("behind %d numbers an answer changes what the writer has", i+1)
		}
	}
	kept := w.Done()
	for range 300 {
		w.Uint(7)
	}
	if !bytes.Equal(kept, want) {
		t.Error("a later write changes an earlier answer")
	}
}

func TestWritersAreApart(t *testing.T) {
	a, b := wire.NewWriter(), wire.NewWriter()
	a.Uint(1)
	b.Uint(2)
	a.Uint(3)
	if !bytes.Equal(a.Done(), []byte{1, 3}) || !bytes.Equal(b.Done(), []byte{2}) {
		t.Error(a.Done(), b.Done())
	}
}
