package amount_test

import (
	"math"
	"math/big"
	"slices"
	"strconv"
	"strings"
	"testing"

	"custody/amount"
	"custody/api"
	"custody/proof"
)

const (
	most  = math.MaxInt64
	least = math.MinInt64
)

// modes: all that there are.
var modes = [4]int{api.Down, api.Up, api.HalfUp, api.HalfEven}

// edges: amounts about which bounds, halves and widths change.
var edges = []int64{
	0, 1, 2, 3, 4, 5, 6, 7, 9, 10, 11, 99, 100, 101, 127, 128, 255, 256,
	1<<31 - 1, 1 << 31, 1<<32 - 1, 1 << 32, 1<<32 + 1, 3037000499, 3037000500,
	1<<62 - 1, 1 << 62, 1<<62 + 1, most - 2, most - 1, most,
}

// fails: numbers below 0.
var fails = []int64{-1, -2, -100, least + 1, least}

// holds checks a number's answer; beside an error the number must be 0.
func holds(t *testing.T, what string, args any, got int64, err error, want int64, no api.Errno) {
	t.Helper()
	if no != api.OK {
		want = 0
	}
	if got != want || !proof.Tells(err, no) {
		t.Errorf("%s%v is %d, %v; want %d, %v", what, args, got, err, want, no)
	}
}

// P1.1

func TestAdd(t *testing.T) {
	for _, c := range []struct {
		a, b, want int64
		no         api.Errno
	}{
		{0, 0, 0, api.OK},
		{2, 3, 5, api.OK},
		{most - 1, 1, most, api.OK},
		{most, 0, most, api.OK},
		{0, most, most, api.OK},
		{1 << 62, 1<<62 - 1, most, api.OK},
		{most, 1, 0, api.ErrOver},
		{1, most, 0, api.ErrOver},
		{1 << 62, 1 << 62, 0, api.ErrOver},
		{most, most, 0, api.ErrOver},
		{-1, most, 0, api.ErrArg},
		{most, -1, 0, api.ErrArg},
		{-1, 1, 0, api.ErrArg},
		{least, least, 0, api.ErrArg},
		{least, 0, 0, api.ErrArg},
		{0, least, 0, api.ErrArg},
	} {
		got, err := amount.Add(c.a, c.b)
		holds(t, "Add", []int64{c.a, c.b}, got, err, c.want, c.no)
	}
}

// P1.2

func TestSub(t *testing.T) {
	for _, c := range []struct {
		a, b, want int64
		no         api.Errno
	}{
		{0, 0, 0, api.OK},
		{3, 3, 0, api.OK},
		{5, 3, 2, api.OK},
		{most, most, 0, api.OK},
		{most, 0, most, api.OK},
		{most, 1, most - 1, api.OK},
		{3, 4, 0, api.ErrShort},
		{0, 1, 0, api.ErrShort},
		{most - 1, most, 0, api.ErrShort},
		{0, most, 0, api.ErrShort},
		{3, -1, 0, api.ErrArg},
		{-1, 3, 0, api.ErrArg},
		{-3, -4, 0, api.ErrArg},
		{least, 1, 0, api.ErrArg},
		{0, least, 0, api.ErrArg},
		{least, least, 0, api.ErrArg},
	} {
		got, err := amount.Sub(c.a, c.b)
		holds(t, "Sub", []int64{c.a, c.b}, got, err, c.want, c.no)
	}
}

// P1.3

func TestMulDivExamples(t *testing.T) {
	for _, c := range []struct {
		a, b, c int64
		want    [4]int64
	}{
		{7, 1, 2, [4]int64{3, 4, 4, 4}},
		{5, 1, 2, [4]int64{2, 3, 3, 2}},
		{0, 7, 3, [4]int64{0, 0, 0, 0}},
		{6, 2, 3, [4]int64{4, 4, 4, 4}},
		{1, 1, 2, [4]int64{0, 1, 1, 0}},
		// just below, at and just above a half, over an even divisor
		{149, 1, 100, [4]int64{1, 2, 1, 1}},
		{150, 1, 100, [4]int64{1, 2, 2, 2}},
		{151, 1, 100, [4]int64{1, 2, 2, 2}},
		{249, 1, 100, [4]int64{2, 3, 2, 2}},
		{250, 1, 100, [4]int64{2, 3, 3, 2}},
		{251, 1, 100, [4]int64{2, 3, 3, 3}},
		// an odd divisor has no half
		{7, 1, 5, [4]int64{1, 2, 1, 1}},
		{8, 1, 5, [4]int64{1, 2, 2, 2}},
		// halves of the greatest divisors
		{1<<61 - 1, 1, 1 << 62, [4]int64{0, 1, 0, 0}},
		{1 << 61, 1, 1 << 62, [4]int64{0, 1, 1, 0}},
		{1<<61 + 1, 1, 1 << 62, [4]int64{0, 1, 1, 1}},
		{1<<62 - 1, 1, most, [4]int64{0, 1, 0, 0}},
		{1 << 62, 1, most, [4]int64{0, 1, 1, 1}},
		{most - 1, 1, most, [4]int64{0, 1, 1, 1}},
		// products that are far above 64 bits
		{most, most, most, [4]int64{most, most, most, most}},
		{most, most - 1, most, [4]int64{most - 1, most - 1, most - 1, most - 1}},
		{1 << 62, 1 << 62, 1 << 62, [4]int64{1 << 62, 1 << 62, 1 << 62, 1 << 62}},
		{most, 1, 1, [4]int64{most, most, most, most}},
	} {
		for i, mode := range modes {
			got, err := amount.MulDiv(c.a, c.b, c.c, mode)
			holds(t, "MulDiv", []int64{c.a, c.b, c.c, int64(mode)}, got, err, c.want[i], api.OK)
		}
	}
}

func TestMulDivOver(t *testing.T) {
	for _, c := range [][3]int64{
		{most, 2, 1},
		{1 << 62, 2, 1},       // just one above
		{1 << 62, 4, 1},       // 2^64, which wraps to 0
		{most, most, 1},       // as great as it gets
		{1 << 62, 1 << 62, 1}, // 2^124
		{most, most, most - 1},
		{3 * (1 << 61), 4, 3}, // 2^63
		// 2^64 - 1 and a rest of 1/2, 1/2, 3/4: rounding up must not wrap round to 0
		{1190112520884487201, 31, 2},
		{2380225041768974402, 31, 4},
		{8198552921648689607, 9, 4},
	} {
		for _, mode := range modes {
			got, err := amount.MulDiv(c[0], c[1], c[2], mode)
			holds(t, "MulDiv", []any{c, mode}, got, err, 0, api.ErrOver)
		}
	}
}

// TestMulDivOverByRounding: the quotient is above MaxAmount only once it is rounded.
func TestMulDivOverByRounding(t *testing.T) {
	const (
		ok   = api.OK
		over = api.ErrOver
	)
	for _, c := range []struct {
		a, b, c int64
		no      [4]api.Errno
	}{
		{most, 1, 1, [4]api.Errno{ok, ok, ok, ok}},
		{2515465100960393402, 11, 3, [4]api.Errno{ok, over, ok, ok}},     // 2^63 - 1 + 1/3
		{4966431096767956204, 13, 7, [4]api.Errno{ok, over, ok, ok}},     // + 3/7
		{6148914691236517205, 3, 2, [4]api.Errno{ok, over, over, over}},  // + 1/2: MaxAmount is odd
		{1590236558078409622, 29, 5, [4]api.Errno{ok, over, over, over}}, // + 3/5
		{1190112520884487201, 31, 4, [4]api.Errno{ok, over, over, over}}, // + 3/4
	} {
		for i, mode := range modes {
			got, err := amount.MulDiv(c.a, c.b, c.c, mode)
			holds(t, "MulDiv", []int64{c.a, c.b, c.c, int64(mode)}, got, err, most, c.no[i])
		}
	}
}

func TestMulDivWrong(t *testing.T) {
	for _, c := range []struct {
		a, b, c int64
		mode    int
	}{
		{-1, 1, 1, api.Down}, {1, -1, 1, api.Down}, {1, 1, -1, api.Down}, {1, 1, 0, api.Down},
		{least, 1, 1, api.Up}, {1, least, 1, api.Up}, {1, 1, least, api.Up},
		{-1, -1, 1, api.Down}, {-1, 1, -1, api.HalfUp}, {0, 0, 0, api.HalfEven},
		{1, 1, 1, -1}, {1, 1, 1, 4}, {1, 1, 1, math.MaxInt}, {1, 1, 1, math.MinInt},
		{1, 1, 0, 9},
		// where ErrOver would apply too
		{most, most, 0, api.Down}, {most, 2, 1, 4}, {most, most, 1, -1}, {least, least, 1, api.Down},
	} {
		got, err := amount.MulDiv(c.a, c.b, c.c, c.mode)
		holds(t, "MulDiv", []int64{c.a, c.b, c.c, int64(c.mode)}, got, err, 0, api.ErrArg)
	}
}

// rounded is MulDiv's meaning, told by the words of the chapter over numbers without bounds.
func rounded(a, b, c int64, mode int) *big.Int {
	product := new(big.Int).Mul(big.NewInt(a), big.NewInt(b))
	q, rest := new(big.Int).QuoRem(product, big.NewInt(c), new(big.Int))
	half := new(big.Int).Lsh(rest, 1).Cmp(big.NewInt(c))
	up := false
	switch mode {
	case api.Up:
		up = rest.Sign() > 0
	case api.HalfUp:
		up = half >= 0
	case api.HalfEven:
		up = half > 0 || half == 0 && q.Bit(0) == 1
	}
	if up {
		q.Add(q, big.NewInt(1))
	}
	return q
}

func TestMulDivAgainstUnbounded(t *testing.T) {
	for _, a := range edges {
		for _, b := range edges {
			for _, c := range edges[1:] {
				for _, mode := range modes {
					want, no := rounded(a, b, c, mode), api.OK
					if !want.IsInt64() {
						want, no = new(big.Int), api.ErrOver
					}
					got, err := amount.MulDiv(a, b, c, mode)
					holds(t, "MulDiv", []int64{a, b, c, int64(mode)}, got, err, want.Int64(), no)
				}
			}
		}
	}
}

// P1.8

func TestRoundingModesAgree(t *testing.T) {
	for _, a := range edges {
		for _, b := range edges {
			for _, c := range edges[1:] {
				q, err := amount.MulDiv(a, b, c, api.Down)
				if err != nil {
					continue
				}
				checkModes(t, a, b, c, q)
			}
		}
	}
}

// checkModes checks what P1.8 says of each mode, where by Down the quotient is q.
func checkModes(t *testing.T, a, b, c, q int64) {
	t.Helper()
	product := new(big.Int).Mul(big.NewInt(a), big.NewInt(b))
	rest := new(big.Int).Rem(product, big.NewInt(c)).Int64()
	half := c%2 == 0 && rest == c/2
	up, upErr := amount.MulDiv(a, b, c, api.Up)
	halfUp, halfUpErr := amount.MulDiv(a, b, c, api.HalfUp)
	halfEven, halfEvenErr := amount.MulDiv(a, b, c, api.HalfEven)
	for i, err := range []error{upErr, halfUpErr, halfEvenErr} {
		n := []int64{up, halfUp, halfEven}[i]
		if err != nil {
			if !proof.Tells(err, api.ErrOver) || q != most || n != 0 {
				t.Errorf("MulDiv(%d, %d, %d, %d) is %d, %v, by Down %d", a, b, c, i+1, n, err, q)
			}
		} else if n != q && n-1 != q {
			t.Errorf("MulDiv(%d, %d, %d, %d) is %d, by Down %d", a, b, c, i+1, n, q)
		}
	}
	if (rest == 0) != (upErr == nil && up == q) {
		t.Errorf("MulDiv(%d, %d, %d) by Up is %d, %v, by Down %d", a, b, c, up, upErr, q)
	}
	differ := halfUp != halfEven || (halfUpErr == nil) != (halfEvenErr == nil)
	if differ != (half && q%2 == 0) {
		t.Errorf("MulDiv(%d, %d, %d) by HalfUp is %d, by HalfEven %d", a, b, c, halfUp, halfEven)
	}
	if differ && (halfEven != q || halfUp != q+1) {
		t.Errorf("MulDiv(%d, %d, %d) at a half: %d, %d over %d", a, b, c, halfUp, halfEven, q)
	}
}

func TestMulDivOrderAndSelf(t *testing.T) {
	for _, a := range edges {
		for _, c := range edges[1:] {
			for _, mode := range modes {
				got, err := amount.MulDiv(a, c, c, mode)
				holds(t, "MulDiv", []int64{a, c, c, int64(mode)}, got, err, a, api.OK)
				for _, b := range edges {
					one, oneErr := amount.MulDiv(a, b, c, mode)
					two, twoErr := amount.MulDiv(b, a, c, mode)
					if one != two || oneErr != twoErr {
						t.Errorf("MulDiv(%d, %d, %d, %d): %d, %v, turned about %d, %v", a, b, c, mode, one, oneErr, two, twoErr)
					}
				}
			}
		}
	}
}

// P1.4

// sums checks a sum of numbers of one width.
func sums[T amount.Whole](t *testing.T, l []T, want int64, no api.Errno) {
	t.Helper()
	room := append(slices.Clone(l), 1, 2)
	kept := slices.Clone(room)
	got, err := amount.Sum(room[:len(l)])
	holds(t, "Sum", l, got, err, want, no)
	if !slices.Equal(room, kept) {
		t.Errorf("Sum changed %v to %v", kept, room)
	}
}

type (
	own   int
	own8  int8
	own16 int16
	own32 int32
	own64 int64
)

func TestSumWidths(t *testing.T) {
	// sums whose way, and whose whole, leave the bounds of the width, but not those of 64 bits
	sums(t, []int8{127, 127, -128}, 126, api.OK)
	sums(t, []int8{127, 127}, 254, api.OK)
	sums(t, []int8{-128, -128}, -256, api.OK)
	sums(t, []int16{32767, 1, -1}, 32767, api.OK)
	sums(t, []int16{32767, 32767}, 65534, api.OK)
	sums(t, []int16{-32768, -32768, 1}, -65535, api.OK)
	sums(t, []int32{math.MaxInt32, 1, -1}, math.MaxInt32, api.OK)
	sums(t, []int32{math.MaxInt32, math.MaxInt32}, 2*math.MaxInt32, api.OK)
	sums(t, []int32{math.MinInt32, math.MinInt32, math.MinInt32}, 3*math.MinInt32, api.OK)
	sums(t, []int{math.MaxInt, 1, -1}, most, api.OK)
	sums(t, []int{math.MinInt, -1, 1}, least, api.OK)
	sums(t, []int{math.MaxInt, 1}, 0, api.ErrOver)
	sums(t, []int64{most, 1, -1}, most, api.OK)
	sums(t, []int64{least, -1, 1}, least, api.OK)
	sums(t, []own{math.MaxInt, math.MaxInt, -1 - math.MaxInt}, most-1, api.OK)
	sums(t, []own8{127, 127, 127}, 381, api.OK)
	sums(t, []own16{-300, 100}, -200, api.OK)
	sums(t, []own32{math.MinInt32, -1}, math.MinInt32-1, api.OK)
	sums(t, []own64{most, 1}, 0, api.ErrOver)
}

func TestSumNone(t *testing.T) {
	sums[int8](t, nil, 0, api.OK)
	sums[int16](t, nil, 0, api.OK)
	sums[int32](t, nil, 0, api.OK)
	sums[int](t, nil, 0, api.OK)
	sums[int64](t, nil, 0, api.OK)
	sums(t, []int64{}, 0, api.OK)
	if n, err := amount.Sum[int64](nil); n != 0 || err != nil {
		t.Error("Sum of nil is", n, err)
	}
}

func TestSumBounds(t *testing.T) {
	sums(t, []int64{most}, most, api.OK)
	sums(t, []int64{least}, least, api.OK)
	sums(t, []int64{-1}, -1, api.OK)
	sums(t, []int64{most, least}, -1, api.OK)
	sums(t, []int64{1, most}, 0, api.ErrOver)
	sums(t, []int64{most, most}, 0, api.ErrOver)
	sums(t, []int64{most, most, 1, 1}, 0, api.ErrOver)                   // 2^64, which wraps to 0
	sums(t, []int64{most, most, most, most, 1, 1, 1, 1}, 0, api.ErrOver) // 2^65
	sums(t, []int64{most, most, 2, least, least}, 0, api.OK)             // by way of 2^64
	sums(t, []int64{most, most, 1, least, least}, -1, api.OK)
	sums(t, []int64{most, most, most, least, least, 1}, most-1, api.OK)
	sums(t, []int64{most, most, most, least, least, 2}, most, api.OK)   // just within
	sums(t, []int64{most, most, most, least, least, 3}, 0, api.ErrOver) // just beyond
	sums(t, []int64{least, -1}, 0, api.ErrOver)
	sums(t, []int64{least, least}, 0, api.ErrOver)                                   // -2^64, which wraps to 0
	sums(t, []int64{least, least, most, 1}, least, api.OK)                           // just within
	sums(t, []int64{least, least, most}, 0, api.ErrOver)                             // just beyond
	sums(t, []int64{least, least, least, least, most, most, most, 3}, least, api.OK) // by way of -2^65
}

// TestSumOrder: only the whole sum counts, in whatever order the numbers come.
func TestSumOrder(t *testing.T) {
	l := []int64{most, most, least, 1, -7, least, most, -1}
	whole := new(big.Int)
	for _, n := range l {
		whole.Add(whole, big.NewInt(n))
	}
	permute(l, 0, func(l []int64) { sums(t, l, whole.Int64(), api.OK) })
}

// permute calls f with each order of l[at:] behind l[:at].
func permute(l []int64, at int, f func([]int64)) {
	if at == len(l) {
		f(l)
		return
	}
	for i := at; i < len(l); i++ {
		l[at], l[i] = l[i], l[at]
		permute(l, at+1, f)
		l[at], l[i] = l[i], l[at]
	}
}

// P1.5

func TestSplit(t *testing.T) {
	for _, c := range []struct {
		n       int64
		weights []int64
		want    []int64
	}{
		{10, []int64{1, 1, 1}, []int64{4, 3, 3}},
		{10, []int64{3, 2, 1}, []int64{5, 3, 2}},
		{1, []int64{0, 5, 5}, []int64{0, 1, 0}},
		{0, []int64{2, 1}, []int64{0, 0}},
		{0, []int64{0, most}, []int64{0, 0}},
		{7, []int64{3}, []int64{7}},
		{most, []int64{most}, []int64{most}},
		{most, []int64{1}, []int64{most}},
		{1, []int64{most}, []int64{1}},
		{most, []int64{1, 1}, []int64{1 << 62, 1<<62 - 1}},
		{most, []int64{1, most - 1}, []int64{1, most - 1}},
		{most, []int64{most - 1, 0, 1}, []int64{most - 1, 0, 1}},
		{100, []int64{1, 0, 0, 1}, []int64{50, 0, 0, 50}},
		// equal rests: the ones that stand first
		{11, []int64{1, 1, 1}, []int64{4, 4, 3}},
		{3, []int64{1, 1, 1, 1, 1}, []int64{1, 1, 1, 0, 0}},
		{1, []int64{0, 0, 1, 1}, []int64{0, 0, 1, 0}},
		// the greatest rest comes first, though it stands behind
		{10, []int64{5, 7}, []int64{4, 6}},
		{10, []int64{1, 3, 4}, []int64{1, 4, 5}},
		// the greatest rest is not of the greatest weight
		{5, []int64{6, 1, 3}, []int64{3, 1, 1}},
		{7, []int64{90, 7, 3}, []int64{6, 1, 0}},
		// more than one is left, and rests of 0 get none of it
		{8, []int64{10, 2, 2, 2, 0}, []int64{5, 1, 1, 1, 0}},
		{9, []int64{10, 2, 2, 2, 0}, []int64{6, 1, 1, 1, 0}},
		{6, []int64{2, 1, 2, 1, 2}, []int64{2, 1, 1, 1, 1}},
	} {
		got, err := amount.Split(c.n, c.weights)
		if !slices.Equal(got, c.want) || err != nil {
			t.Errorf("Split(%d, %v) is %v, %v; want %v", c.n, c.weights, got, err, c.want)
		}
	}
}

func TestSplitWrong(t *testing.T) {
	for _, c := range []struct {
		n       int64
		weights []int64
		no      api.Errno
	}{
		{5, nil, api.ErrArg},
		{5, []int64{}, api.ErrArg},
		{0, nil, api.ErrArg},
		{5, []int64{0}, api.ErrArg},
		{5, []int64{0, 0}, api.ErrArg},
		{-1, []int64{1}, api.ErrArg},
		{least, []int64{1}, api.ErrArg},
		{1, []int64{1, -1}, api.ErrArg},
		{1, []int64{-1, 1}, api.ErrArg},
		{1, []int64{-1}, api.ErrArg},
		{1, []int64{least, most, 2}, api.ErrArg},
		{1, []int64{most, 1}, api.ErrOver},
		{0, []int64{most, 1}, api.ErrOver},
		{1, []int64{1, most}, api.ErrOver},
		{1, []int64{1 << 62, 1 << 62}, api.ErrOver},
		{1, []int64{most, most, 1, 1}, api.ErrOver},
		{1, []int64{most, most, most}, api.ErrOver},
		// both apply: ErrArg is named first, wherever it stands
		{-1, []int64{most, 1}, api.ErrArg},
		{1, []int64{most, 1, -1}, api.ErrArg},
		{1, []int64{most, most, least}, api.ErrArg},
	} {
		got, err := amount.Split(c.n, c.weights)
		if len(got) != 0 || !proof.Tells(err, c.no) {
			t.Errorf("Split(%d, %v) is %v, %v; want %v", c.n, c.weights, got, err, c.no)
		}
	}
}

// TestSplitMemory: what is handed in stays, its spare room too, and answers are memory of their own.
func TestSplitMemory(t *testing.T) {
	for _, n := range []int64{-1, 0, 1, 10, most} {
		room := []int64{5, 0, 3, 7, 77, 78, 79}
		kept := slices.Clone(room)
		one, _ := amount.Split(n, room[:4])
		two, _ := amount.Split(n, room[:4])
		if !slices.Equal(room, kept) {
			t.Errorf("Split(%d, ..) changed %v to %v", n, kept, room)
		}
		want := slices.Clone(two)
		for i := range one[:cap(one)] {
			one[:cap(one)][i] = -9
		}
		if !slices.Equal(room, kept) || !slices.Equal(two, want) {
			t.Errorf("the answer of Split(%d, ..) is shared", n)
		}
		for i := range room {
			room[i] = -8
		}
		if !slices.Equal(two, want) {
			t.Errorf("the answer of Split(%d, ..) shares its argument", n)
		}
	}
}

// dealt is Split's meaning, told by the words of the chapter over numbers without bounds.
func dealt(n int64, weights []int64) []int64 {
	total := new(big.Int)
	for _, w := range weights {
		total.Add(total, big.NewInt(w))
	}
	parts := make([]int64, len(weights))
	rests := make([]*big.Int, len(weights))
	left := n
	for i, w := range weights {
		product := new(big.Int).Mul(big.NewInt(n), big.NewInt(w))
		q, rest := new(big.Int).QuoRem(product, total, new(big.Int))
		parts[i], rests[i] = q.Int64(), rest
		left -= parts[i]
	}
	for ; left > 0; left-- {
		best := -1
		for i, rest := range rests {
			if rest != nil && (best < 0 || rest.Cmp(rests[best]) > 0) {
				best = i
			}
		}
		parts[best]++
		rests[best] = nil
	}
	return parts
}

// noise is a row of numbers that look like nothing, the same each time.
type noise uint64

func (x *noise) next() uint64 {
	*x ^= *x << 13
	*x ^= *x >> 7
	*x ^= *x << 17
	return uint64(*x)
}

// someWeights is up to 9 weights of like size whose sum is an amount; some are 0, some the same, one is above 0.
func someWeights(x *noise) []int64 {
	width := x.next() % 60
	l := make([]int64, 1+x.next()%9)
	for i := range l {
		switch x.next() % 4 {
		case 0:
		case 1:
			l[i] = l[x.next()%uint64(i+1)]
		default:
			l[i] = int64(x.next() & (1<<width - 1))
		}
	}
	l[x.next()%uint64(len(l))] = 1 + int64(x.next()&(1<<width-1))
	return l
}

func TestSplitAgainstUnbounded(t *testing.T) {
	x := noise(1)
	for range 20000 {
		weights := someWeights(&x)
		n := int64(x.next() >> (1 + x.next()%63))
		got, err := amount.Split(n, weights)
		if want := dealt(n, weights); !slices.Equal(got, want) || err != nil {
			t.Fatalf("Split(%d, %v) is %v, %v; want %v", n, weights, got, err, want)
		}
	}
}

// P1.9

func TestSplitLargestRemainder(t *testing.T) {
	x := noise(2)
	for range 5000 {
		weights := someWeights(&x)
		n := int64(x.next() >> (1 + x.next()%63))
		parts, err := amount.Split(n, weights)
		if err != nil || len(parts) != len(weights) {
			t.Fatalf("Split(%d, %v) is %v, %v", n, weights, parts, err)
		}
		if sum, err := amount.Sum(parts); sum != n || err != nil {
			t.Errorf("Split(%d, %v) is %v: %d together, %v", n, weights, parts, sum, err)
		}
		checkParts(t, n, weights, parts)
		checkMultiples(t, n, weights, parts)
	}
}

// checkParts checks each part by its weight, and each two against each other.
func checkParts(t *testing.T, n int64, weights, parts []int64) {
	t.Helper()
	total, _ := amount.Sum(weights)
	for i, w := range weights {
		whole, _ := amount.MulDiv(n, w, total, api.Down)
		if parts[i] != whole && parts[i]-1 != whole {
			t.Errorf("Split(%d, %v) is %v: %d is not about %d", n, weights, parts, parts[i], whole)
		}
		if w == 0 && parts[i] != 0 {
			t.Errorf("Split(%d, %v) is %v: a weight of 0 gets %d", n, weights, parts, parts[i])
		}
		for j, v := range weights {
			if (w > v || w == v && i < j) && parts[i] < parts[j] {
				t.Errorf("Split(%d, %v) is %v: %d gets less than %d", n, weights, parts, i, j)
			}
		}
	}
}

// checkMultiples: the parts stay if all weights are multiplied, and are still in their bounds.
func checkMultiples(t *testing.T, n int64, weights, parts []int64) {
	t.Helper()
	total, _ := amount.Sum(weights)
	for _, k := range []int64{2, 3, 10, most / total} {
		if k > most/total {
			continue
		}
		more := make([]int64, len(weights))
		for i, w := range weights {
			more[i] = k * w
		}
		if got, err := amount.Split(n, more); !slices.Equal(got, parts) || err != nil {
			t.Errorf("Split(%d, %v) is %v, by %d times the weights %v, %v", n, weights, parts, k, got, err)
		}
	}
}

// P1.6

func TestFormat(t *testing.T) {
	for _, c := range []struct {
		n     int64
		scale int
		want  string
		no    api.Errno
	}{
		{1234, 2, "12.34", api.OK},
		{5, 3, "0.005", api.OK},
		{0, 0, "0", api.OK},
		{0, 1, "0.0", api.OK},
		{0, 18, "0.000000000000000000", api.OK},
		{1, 18, "0.000000000000000001", api.OK},
		{10, 0, "10", api.OK},
		{10, 1, "1.0", api.OK},
		{10, 2, "0.10", api.OK},
		{99, 2, "0.99", api.OK},
		{100, 2, "1.00", api.OK},
		{123, 3, "0.123", api.OK},
		{1234, 3, "1.234", api.OK},
		{most, 0, "9223372036854775807", api.OK},
		{most, 1, "922337203685477580.7", api.OK},
		{most, 18, "9.223372036854775807", api.OK},
		{1000000000000000000, 18, "1.000000000000000000", api.OK},
		{999999999999999999, 18, "0.999999999999999999", api.OK},
		{7, 19, "", api.ErrArg},
		{7, -1, "", api.ErrArg},
		{7, math.MaxInt, "", api.ErrArg},
		{7, math.MinInt, "", api.ErrArg},
		{-1, 0, "", api.ErrArg},
		{-7, 2, "", api.ErrArg},
		{least, 18, "", api.ErrArg},
		{-1, 19, "", api.ErrArg},
	} {
		got, err := amount.Format(c.n, c.scale)
		if got != c.want || !proof.Tells(err, c.no) {
			t.Errorf("Format(%d, %d) is %q, %v; want %q, %v", c.n, c.scale, got, err, c.want, c.no)
		}
	}
}

// P1.7

type reading struct {
	s     string
	scale int
	want  int64
	no    api.Errno
}

// reads checks what Parse answers.
func reads(t *testing.T, l []reading) {
	t.Helper()
	for _, c := range l {
		got, err := amount.Parse(c.s, c.scale)
		holds(t, "Parse", []any{strconv.Quote(c.s), c.scale}, got, err, c.want, c.no)
	}
}

func TestParse(t *testing.T) {
	reads(t, []reading{
		{"012.3", 2, 1230, api.OK},
		{".5", 2, 50, api.OK},
		{"7.", 0, 7, api.OK},
		{"7.", 3, 7000, api.OK},
		{"7", 0, 7, api.OK},
		{"7", 2, 700, api.OK},
		{"0", 0, 0, api.OK},
		{"0", 18, 0, api.OK},
		{"0.", 18, 0, api.OK},
		{".0", 1, 0, api.OK},
		{"12.34", 2, 1234, api.OK},
		{"0.005", 3, 5, api.OK},
		{"9223372036854775807", 0, most, api.OK},
		{"9.223372036854775807", 18, most, api.OK},
		{"9.22337203685477580", 18, 9223372036854775800, api.OK},
		{"92233720368547758.07", 2, most, api.OK},
		{"922337203685477580.7", 1, most, api.OK},
		{"9.", 18, 9000000000000000000, api.OK},
		{".000000000000000001", 18, 1, api.OK},
		{"00000000000000000000000000001", 0, 1, api.OK},
		{strings.Repeat("0", 5000) + "12.5", 1, 125, api.OK},
		{strings.Repeat("0", 5000), 18, 0, api.OK},
	})
}

func TestParseNoNumeral(t *testing.T) {
	for _, s := range []string{
		"", ".", "..", "...", "1.2.3", "1..2", "..1", "1..", ".1.", "-1", "+1", "-0", " 1", "1 ", "1 2", "1,5", "1_000",
		"1e3", "1E3", "0x1", "a", "1a", "a1", "1.a", ".a", "\x00", "1\x00", "1\n", "\xff", "1\xff", "/", ":", "1/", "1:",
		"١", "1٢", "½", "１", "Inf", "NaN", "1.5.", "²",
	} {
		for _, scale := range []int{0, 2, 18} {
			reads(t, []reading{{s, scale, 0, api.ErrText}})
		}
	}
}

func TestParseLong(t *testing.T) {
	reads(t, []reading{
		{"1.230", 2, 0, api.ErrLong},
		{"1.0", 0, 0, api.ErrLong},
		{".0", 0, 0, api.ErrLong},
		{".00", 1, 0, api.ErrLong},
		{"1.0000000000000000000", 18, 0, api.ErrLong},
		{".0000000000000000001", 18, 0, api.ErrLong},
		{"1." + strings.Repeat("0", 5000), 18, 0, api.ErrLong},
	})
}

func TestParseOver(t *testing.T) {
	reads(t, []reading{
		{"92233720368547758.08", 2, 0, api.ErrOver},
		{"9223372036854775808", 0, 0, api.ErrOver},
		{"9223372036854775810", 0, 0, api.ErrOver},
		{"9223372036854775809", 0, 0, api.ErrOver},
		{"9223372036854775807", 1, 0, api.ErrOver},
		{"922337203685477580.8", 1, 0, api.ErrOver},
		{"922337203685477581", 1, 0, api.ErrOver},
		{"9.223372036854775808", 18, 0, api.ErrOver},
		{"9.3", 18, 0, api.ErrOver},
		{"10", 18, 0, api.ErrOver},
		{"18446744073709551616", 0, 0, api.ErrOver}, // 2^64, which wraps to 0
		{"18446744073709551617", 0, 0, api.ErrOver},
		{strings.Repeat("9", 5000), 0, 0, api.ErrOver},
		{"1" + strings.Repeat("0", 64), 0, 0, api.ErrOver},
	})
}

// TestParseWhichError: of several errors the one that is named first.
func TestParseWhichError(t *testing.T) {
	over := strings.Repeat("9", 30)
	reads(t, []reading{
		{"1", -1, 0, api.ErrArg},
		{"1", 19, 0, api.ErrArg},
		{"1", math.MaxInt, 0, api.ErrArg},
		{"1", math.MinInt, 0, api.ErrArg},
		{"", 19, 0, api.ErrArg},
		{"x.123456", 19, 0, api.ErrArg},
		{over, -1, 0, api.ErrArg},
		{"x.123456", 2, 0, api.ErrText},
		{"1.23456x", 2, 0, api.ErrText},
		{over + "x", 2, 0, api.ErrText},
		{"1.234.", 2, 0, api.ErrText},
		{over + ".123", 2, 0, api.ErrLong},
		{over + ".12", 2, 0, api.ErrOver},
	})
}

// P1.10

func TestThereAndBack(t *testing.T) {
	for _, n := range edges {
		for scale := range api.MaxScale + 1 {
			s, err := amount.Format(n, scale)
			if err != nil || strings.Contains(s, ".") != (scale > 0) {
				t.Errorf("Format(%d, %d) is %q, %v", n, scale, s, err)
			}
			if scale > 0 && len(s)-strings.Index(s, ".")-1 != scale {
				t.Errorf("Format(%d, %d) is %q", n, scale, s)
			}
			if head, _, _ := strings.Cut(s, "."); head == "" || len(head) > 1 && head[0] == '0' {
				t.Errorf("Format(%d, %d) is %q", n, scale, s)
			}
			got, err := amount.Parse(s, scale)
			holds(t, "Parse", []any{s, scale}, got, err, n, api.OK)
		}
	}
}

func TestZerosAheadAndBehind(t *testing.T) {
	for _, s := range []string{"1.2", ".5", "7.", "0.", ".0", "012.30", "9.223372036854775807", "92233720368547758.07", "3"} {
		for scale := range api.MaxScale + 1 {
			n, err := amount.Parse(s, scale)
			if err != nil {
				continue
			}
			ahead, err := amount.Parse("0"+s, scale)
			holds(t, "Parse", []any{"0" + s, scale}, ahead, err, n, api.OK)
			_, tail, point := strings.Cut(s, ".")
			if !point {
				continue
			}
			no := api.OK
			if len(tail)+1 > scale {
				no = api.ErrLong
			}
			behind, err := amount.Parse(s+"0", scale)
			holds(t, "Parse", []any{s + "0", scale}, behind, err, n, no)
		}
	}
}

// P1.11

func TestAddAndSubUndoEachOther(t *testing.T) {
	all := append(slices.Clone(edges), fails...)
	for _, a := range all {
		for _, b := range all {
			if sum, err := amount.Add(a, b); err == nil {
				got, err := amount.Sub(sum, b)
				holds(t, "Sub", []int64{sum, b}, got, err, a, api.OK)
			}
			if rest, err := amount.Sub(a, b); err == nil {
				got, err := amount.Add(rest, b)
				holds(t, "Add", []int64{rest, b}, got, err, a, api.OK)
			}
		}
	}
}

func TestSumOfTwoIsAdd(t *testing.T) {
	for _, a := range edges {
		for _, b := range edges {
			sum, sumErr := amount.Sum([]int64{a, b})
			both, addErr := amount.Add(a, b)
			if sum != both || sumErr != addErr {
				t.Errorf("Sum of %d and %d is %d, %v; Add tells %d, %v", a, b, sum, sumErr, both, addErr)
			}
		}
	}
}

// TestNegativeAlwaysRefused: a number below 0 is ErrArg, whatever stands beside it.
func TestNegativeAlwaysRefused(t *testing.T) {
	for _, a := range fails {
		for _, b := range append(slices.Clone(edges), fails...) {
			for _, p := range [][2]int64{{a, b}, {b, a}} {
				got, err := amount.Add(p[0], p[1])
				holds(t, "Add", p, got, err, 0, api.ErrArg)
				got, err = amount.Sub(p[0], p[1])
				holds(t, "Sub", p, got, err, 0, api.ErrArg)
				got, err = amount.MulDiv(p[0], p[1], 1, api.Down)
				holds(t, "MulDiv", p, got, err, 0, api.ErrArg)
				got, err = amount.MulDiv(1, p[0], p[1], api.Down)
				holds(t, "MulDiv", p, got, err, 0, api.ErrArg)
			}
		}
	}
}
