package margin

import (
	"math"

	"custody/api"
)

// areFinite tells whether all are numbers, and none of them infinite.
func areFinite(numbers ...float64) bool {
	for _, x := range numbers {
		if math.IsNaN(x) || math.IsInf(x, 0) {
			return false
		}
	}
	return true
}

// checkRow is what is wrong with a row of at most so many numbers.
func checkRow(most int, numbers ...float64) error {
	if len(numbers) > most {
		return api.ErrMany
	}
	if len(numbers) == 0 {
		return api.ErrShort
	}
	if !areFinite(numbers...) {
		return api.ErrArg
	}
	return nil
}

// told is a number as an answer: it has to be finite.
func told(x float64) (float64, error) {
	if !areFinite(x) {
		return 0, api.ErrOver
	}
	return x, nil
}

// product is x times y, rounded by itself: without the conversion it may be fused with a sum.
func product(x, y float64) float64 { return float64(x * y) }

// mean is the sum of numbers over how many there are, whatever it comes to.
func mean(numbers ...float64) float64 {
	sum := 0.0
	for _, x := range numbers {
		sum += x
	}
	return sum / float64(len(numbers))
}

// greatest is the place of the greatest number, of equals the first; false, if there are none.
func greatest(numbers ...float64) (int, bool) {
	at := 0
	for i, x := range numbers {
		if x > numbers[at] {
			at = i
		}
	}
	return at, len(numbers) > 0
}

func isPrice(x float64) bool { return areFinite(x) && x > 0 }

// moved is by how much of itself the price rose from one quote to the next.
func moved(before, q api.Quote) (float64, error) {
	if !isPrice(q.Price) {
		return 0, api.ErrArg
	}
	if q.Day <= before.Day {
		return 0, api.ErrDate
	}
	x, err := told(q.Price / before.Price)
	if err != nil {
		return 0, err
	}
	return x - 1, nil
}
