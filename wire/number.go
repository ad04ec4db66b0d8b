package wire

import (
	"math/bits"

	"custody/api"
)

// single is the number of those whose form is one byte: the bytes from it on tell how many stand behind them.
const single = 248

// behind is how many bytes stand behind the first one of a number's form.
func behind(x uint64) int {
	if x < single {
		return 0
	}
	return (bits.Len64(x) + 7) / 8
}

// appendForm is b with the form of a number behind it.
func appendForm(b []byte, x uint64) []byte {
	n := behind(x)
	if n == 0 {
		return append(b, byte(x))
	}
	return appendBytes(append(b, byte(single-1+n)), x, n)
}

// begins is the number with whose form bytes begin, and how many bytes that form has.
func begins(b []byte) (uint64, int, error) {
	if len(b) == 0 {
		return 0, 0, api.ErrShort
	}
	if b[0] < single {
		return uint64(b[0]), 1, nil
	}
	n := int(b[0]) - (single - 1)
	if len(b) < 1+n {
		return 0, 0, api.ErrShort
	}
	x := numberOf(b[1 : 1+n])
	if behind(x) != n {
		return 0, 0, api.ErrForm
	}
	return x, 1 + n, nil
}

// appendBytes is b with the lowest n bytes of a number behind it, the highest first.
func appendBytes(b []byte, x uint64, n int) []byte {
	for i := range n {
		b = append(b, byte(x>>(8*(n-1-i))))
	}
	return b
}

// numberOf is what bytes are, the highest first.
func numberOf(b []byte) uint64 {
	x := uint64(0)
	for _, c := range b {
		x = x<<8 | uint64(c)
	}
	return x
}
