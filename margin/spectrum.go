package margin

import "math"

// spectrum is that of a power of two of numbers, by halves.
func spectrum(numbers ...float64) []complex128 {
	n := len(numbers)
	if n == 1 {
		return []complex128{complex(numbers[0], 0)}
	}
	even, odd := everySecond(numbers)
	e, o := spectrum(even...), spectrum(odd...)
	out := make([]complex128, n)
	w, r := complex(1, 0), root(n)
	for k := range n / 2 {
		t := times(w, o[k])
		out[k], out[k+n/2] = e[k]+t, e[k]-t
		w = times(w, r)
	}
	return out
}

// everySecond is the numbers at the even places, and those at the odd ones.
func everySecond(numbers []float64) (even, odd []float64) {
	for i := 0; i < len(numbers); i += 2 {
		even, odd = append(even, numbers[i]), append(odd, numbers[i+1])
	}
	return even, odd
}

// root is that by which one place of a spectrum of n numbers, a power of two from 2 on, is turned against the next.
func root(n int) complex128 {
	r := complex(-1, 0)
	for m := 2; m < n; m *= 2 {
		a := real(r)
		r = complex(math.Sqrt((1+a)/2), -math.Sqrt((1-a)/2))
	}
	return r
}

// times is the product of x and y; its parts are reckoned by steps, as the language's own product may fuse them.
func times(x, y complex128) complex128 {
	p, q, u, v := real(x), imag(x), real(y), imag(y)
	return complex(product(p, u)-product(q, v), product(p, v)+product(q, u))
}

// powers are the squares of the numbers' distances from 0.
func powers(l []complex128) []float64 {
	out := make([]float64, len(l))
	for i, x := range l {
		p, q := real(x), imag(x)
		out[i] = product(p, p) + product(q, q)
	}
	return out
}
