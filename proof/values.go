package proof

import (
	"slices"
	"strconv"

	"custody/api"
)

// Wrong is what a value stands for that is none of a type's Values.
const Wrong = -99

// Values are things of one type that stand for the numbers from 0 to 999, the zero value for 0: by them a layer for things of any type is asked the same of each type.
type Values[V any] struct {
	all  []V
	same func(a, b V) bool
}

// values are made by a function, behind the zero value.
func values[V any](of func(number int) V, same func(a, b V) bool) Values[V] {
	all := make([]V, 1000)
	for n := 1; n < len(all); n++ {
		all[n] = of(n)
	}
	return Values[V]{all, same}
}

// Of is the value that stands for a number.
func (x Values[V]) Of(number int) V { return x.all[number] }

// Number is what a value stands for.
func (x Values[V]) Number(v V) int {
	for n, known := range x.all {
		if x.same(v, known) {
			return n
		}
	}
	return Wrong
}

func equal[V comparable](a, b V) bool { return a == b }

// Thing is a value of several parts.
type Thing struct {
	Text string
	Pair [2]int
}

func text(n int) string { return "v" + strconv.Itoa(n) }

// Texts are texts.
func Texts() Values[string] { return values(text, equal) }

// Numbers are the numbers themselves.
func Numbers() Values[int] { return values(func(n int) int { return n }, equal) }

// Shorts are numbers of 16 bits.
func Shorts() Values[uint16] { return values(func(n int) uint16 { return uint16(n) }, equal) }

// Things are structs.
func Things() Values[Thing] {
	return values(func(n int) Thing { return Thing{text(n), [2]int{n, -n}} }, equal)
}

// Pointers are pointers.
func Pointers() Values[*Thing] {
	return values(func(int) *Thing { return &Thing{} }, equal)
}

// Failures are values behind an interface.
func Failures() Values[error] { return values(func(n int) error { return api.Errno(n) }, equal) }

// Lists are lists, told apart by what is in them.
func Lists() Values[[]int] {
	return values(func(n int) []int { return []int{n, -n} }, slices.Equal[[]int])
}
