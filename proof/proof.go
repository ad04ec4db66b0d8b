// Package proof is what the tests of all layers ask and draw. The program itself does not call it.
package proof

import (
	"errors"

	"custody/api"
)

// Tells tells whether err is the one number no (nil for OK), and tells no place.
func Tells(err error, no api.Errno) bool {
	var place api.Fault
	return just(err, no) && !errors.As(err, &place)
}

// TellsAt tells whether err is the one number no, and tells this place.
func TellsAt(err error, no api.Errno, line, at int) bool {
	var place api.Fault
	return just(err, no) && errors.As(err, &place) && place == api.Fault{No: no, Line: line, At: at}
}

// just tells whether err is or wraps the number no, and no other.
func just(err error, no api.Errno) bool {
	if no == api.OK {
		return err == nil
	}
	for e := api.ErrArg; e <= api.ErrKind; e++ {
		if errors.Is(err, e) != (e == no) {
			return false
		}
	}
	return true
}

// Dice is a row of numbers that looks like chance, and is the same each time.
type Dice uint64

// Next is the row's next number.
func (d *Dice) Next() uint64 {
	*d += 0x9e3779b97f4a7c15
	x := uint64(*d)
	x = (x ^ x>>30) * 0xbf58476d1ce4e5b9
	x = (x ^ x>>27) * 0x94d049bb133111eb
	return x ^ x>>31
}

// Below is a number from 0 to n - 1.
func (d *Dice) Below(n int) int { return int(d.Next() % uint64(n)) }

// Of is one of these things.
func Of[T any](d *Dice, l ...T) T { return l[d.Below(len(l))] }

// Text is so many of these bytes.
func (d *Dice) Text(n int, from string) string {
	b := make([]byte, n)
	for i := range b {
		b[i] = from[d.Below(len(from))]
	}
	return string(b)
}

// Bytes are so many bytes.
func (d *Dice) Bytes(n int) []byte {
	b := make([]byte, n)
	for i := range b {
		b[i] = byte(d.Next())
	}
	return b
}
