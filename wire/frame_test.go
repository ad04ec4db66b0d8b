package wire_test

import (
	"bytes"
	"hash/crc32"
	"math"
	"testing"

	"custody/api"
	"custody/proof"
	"custody/wire"
)

// bitwise is the sum as the chapter tells it, bit by bit.
func bitwise(b []byte) uint32 {
	sum := uint32(0xffffffff)
	for _, c := range b {
		for bit := range 8 {
			u := sum & 1
			sum >>= 1
			if u != uint32(c>>bit&1) {
				sum ^= 0x82f63b78
			}
		}
	}
	return ^sum
}

// sumBytes are the four bytes that a frame bears.
func sumBytes(form, payload []byte) []byte {
	sum := crc32.Checksum(join(form, payload), crc32.MakeTable(crc32.Castagnoli))
	return []byte{byte(sum >> 24), byte(sum >> 16), byte(sum >> 8), byte(sum)}
}

// framed is a frame, reckoned a second time.
func framed(number uint64, payload []byte) []byte {
	f := form(number)
	return join(form(uint64(len(payload))), f, sumBytes(f, payload), payload)
}

// unframed is what Unframe should answer.
func unframed(b []byte) (uint64, []byte, int, api.Errno) {
	size, at, no := starts(b)
	if no != api.OK {
		return 0, nil, 0, no
	}
	if size > 65536 {
		return 0, nil, 0, api.ErrMany
	}
	number, more, no := starts(b[at:])
	if no != api.OK {
		return 0, nil, 0, no
	}
	f, rest := b[at:at+more], b[at+more:]
	if len(rest) < 4+int(size) {
		return 0, nil, 0, api.ErrShort
	}
	sum, payload := rest[:4], rest[4:4+size]
	if !bytes.Equal(sum, sumBytes(f, payload)) {
		return 0, nil, 0, api.ErrSum
	}
	return number, payload, at + more + 4 + int(size), api.OK
}

// unframes checks what Unframe answers, that it changes nothing, and that what it takes is what Frame makes.
func unframes(t *testing.T, b []byte) {
	t.Helper()
	n, payload, size, no := unframed(b)
	given, room := roomy(b)
	gotN, got, gotSize, err := wire.Unframe(given)
	if gotN != n || !bytes.Equal(got, payload) || gotSize != size || !proof.Tells(err, no) {
		t.Errorf("Unframe(% .30x) is %d, % .20x, %d, %v; want %d, % .20x, %d, %v", b, gotN, got, gotSize, err, n, payload, size, no)
	}
	if !bytes.Equal(given, b) || !untouched(room) {
		t.Errorf("Unframe(% .30x) changes its bytes", b)
	}
	if err != nil {
		return
	}
	if f, err := wire.Frame(gotN, got); err != nil || !bytes.HasPrefix(b, f) || len(f) != gotSize {
		t.Errorf("% .30x is taken for the frame % .30x, %v", b, f, err)
	}
}

// refused checks that Unframe answers just this error.
func refused(t *testing.T, b []byte, no api.Errno) {
	t.Helper()
	if n, payload, size, err := wire.Unframe(b); n != 0 || len(payload) != 0 || size != 0 || !proof.Tells(err, no) {
		t.Errorf("Unframe(% .30x) is %d, % .20x, %d, %v; want %v", b, n, payload, size, err, no)
	}
}

// made is a frame that must be one.
func made(t *testing.T, number uint64, payload []byte) []byte {
	t.Helper()
	f, err := wire.Frame(number, payload)
	if err != nil {
		t.Fatal(err)
	}
	return f
}

// sizes are the lengths of payloads at which something changes.
func sizes() []int {
	return []int{0, 1, 2, 3, 4, 5, 246, 247, 248, 255, 256, 257, 65534, 65535, 65536}
}

// P5.6

func TestSum(t *testing.T) {
	for _, x := range []struct {
		b    []byte
		want uint32
	}{
		{nil, 0},
		{[]byte{}, 0},
		{[]byte("123456789"), 0xe3069283},
		{make([]byte, 32), 0x8a9136aa},
		{bytes.Repeat([]byte{0xff}, 32), 0x62a8ab43}, // this one and the next are of RFC 3720 too
		{[]byte{0, 1, 2, 3, 4, 5, 6, 7, 8, 9, 10, 11, 12, 13, 14, 15, 16, 17, 18, 19, 20, 21, 22, 23, 24, 25, 26, 27, 28, 29, 30, 31}, 0x46dd794e},
	} {
		if got := wire.Sum(x.b); got != x.want {
			t.Errorf("Sum(% x) is %08x, want %08x", x.b, got, x.want)
		}
	}
}

func TestSumBitByBit(t *testing.T) {
	table := crc32.MakeTable(crc32.Castagnoli)
	check := func(b []byte) {
		t.Helper()
		given, room := roomy(b)
		if got := wire.Sum(given); got != bitwise(b) || got != crc32.Checksum(b, table) {
			t.Errorf("Sum(% .20x) is %08x, want %08x", b, got, bitwise(b))
		}
		if !bytes.Equal(given, b) || !untouched(room) {
			t.Errorf("Sum(% .20x) changes its bytes", b)
		}
	}
	for x := range 1 << 16 {
		check([]byte{byte(x), byte(x >> 8)})
	}
	d := roll(5)
	for n := range 600 {
		check(d.Bytes(n))
		check(make([]byte, n))
		check(bytes.Repeat([]byte{0xff}, n))
	}
	check(d.Bytes(1 << 20))
}

// P5.7

func TestFrame(t *testing.T) {
	d := roll(6)
	for _, n := range sizes() {
		for _, number := range numbers() {
			payload := d.Bytes(n)
			if got := made(t, number, payload); !bytes.Equal(got, framed(number, payload)) {
				t.Errorf("Frame(%d, %d bytes) is % .20x, want % .20x", number, n, got, framed(number, payload))
			}
		}
	}
	for _, none := range [][]byte{nil, {}} {
		if got := made(t, 1, none); !bytes.Equal(got, framed(1, nil)) || len(got) != 6 {
			t.Errorf("the frame of 1 and nothing is % x", got)
		}
	}
}

func TestFrameExample(t *testing.T) {
	sum := bitwise([]byte{0x01, 0x61, 0x62})
	want := []byte{0x02, 0x01, byte(sum >> 24), byte(sum >> 16), byte(sum >> 8), byte(sum), 0x61, 0x62}
	if got := made(t, 1, []byte("ab")); !bytes.Equal(got, want) {
		t.Errorf("the frame of 1 and ab is % x, want % x", got, want)
	}
}

func TestFrameOfTooMuch(t *testing.T) {
	for _, n := range []int{api.MaxFrame + 1, api.MaxFrame + 2, 1 << 17, 1 << 20} {
		for _, number := range []uint64{0, 1, math.MaxUint64} {
			if f, err := wire.Frame(number, make([]byte, n)); len(f) != 0 || !proof.Tells(err, api.ErrMany) {
				t.Errorf("Frame of %d bytes has %d bytes, %v", n, len(f), err)
			}
		}
	}
}

func TestFrameIsNewMemory(t *testing.T) {
	for _, n := range []int{0, 1, 8, 100, 300} {
		want := bytes.Repeat([]byte{7}, n)
		payload, room := roomy(want)
		a, b := made(t, 5, payload), made(t, 5, payload)
		spoil(a)
		if !bytes.Equal(payload, want) || !untouched(room) || !bytes.Equal(b, framed(5, want)) {
			t.Errorf("a frame of %d bytes shares memory", n)
		}
		spoil(payload)
		if !bytes.Equal(b, framed(5, want)) {
			t.Errorf("a frame of %d bytes shares memory with its payload", n)
		}
	}
}

// P5.8

func TestUnframe(t *testing.T) {
	d := roll(7)
	for _, n := range sizes() {
		for _, number := range numbers() {
			payload := d.Bytes(n)
			f := framed(number, payload)
			for _, behind := range [][]byte{nil, {0}, {0xff}, f, d.Bytes(20)} {
				gotN, got, size, err := wire.Unframe(join(f, behind))
				if gotN != number || !bytes.Equal(got, payload) || size != len(f) || err != nil {
					t.Errorf("Unframe of the frame of %d and %d bytes is %d, %d bytes, %d, %v", number, n, gotN, len(got), size, err)
				}
			}
		}
	}
}

func TestUnframeOrder(t *testing.T) {
	bad := []byte{0xf8, 0xf7} // no form
	many := form(65537)
	for _, x := range []struct {
		b  []byte
		no api.Errno
	}{
		{nil, api.ErrShort},
		{[]byte{0xf9, 0}, api.ErrShort}, // a form that is cut, ahead of what is wrong with it
		{join(bad), api.ErrForm},        // ahead of all that lacks behind it
		{join(bad, bad), api.ErrForm},
		{[]byte{0xfa, 0, 0, 1}, api.ErrForm},
		{[]byte{0xff, 0, 1, 0, 0, 0, 0, 0, 1}, api.ErrForm}, // and ahead of too many
		{join(many), api.ErrMany},                           // ahead of a second form that lacks
		{join(many, bad), api.ErrMany},
		{join(form(math.MaxUint64), bad), api.ErrMany},
		{join(many, []byte{1}, make([]byte, 70000)), api.ErrMany},
		{[]byte{2}, api.ErrShort},
		{[]byte{2, 0xf9, 0}, api.ErrShort},
		{join([]byte{2}, bad), api.ErrForm}, // ahead of a sum and a payload that lack
		{join([]byte{2}, bad, make([]byte, 6)), api.ErrForm},
		{[]byte{2, 1}, api.ErrShort},
		{[]byte{2, 1, 0, 0, 0}, api.ErrShort},
		{[]byte{0, 1, 0, 0, 0}, api.ErrShort},          // a payload of nothing too
		{[]byte{2, 1, 0, 0, 0, 0, 0x61}, api.ErrShort}, // ahead of a sum that is wrong
		{join(form(65536), []byte{1, 0, 0, 0, 0}, make([]byte, 65535)), api.ErrShort},
		{[]byte{2, 1, 0, 0, 0, 0, 0x61, 0x62}, api.ErrSum},
		{[]byte{0, 1, 0, 0, 0, 0}, api.ErrSum},
		{join(form(65536), []byte{1, 0, 0, 0, 0}, make([]byte, 65536)), api.ErrSum},
	} {
		refused(t, x.b, x.no)
		unframes(t, x.b)
	}
}

func TestUnframeOfFormsThatAreNotTheOne(t *testing.T) {
	payload := []byte("ab")
	for _, f := range malformed() {
		// The sum is right, over the bytes that stand there and over the number's own form.
		for _, sum := range [][]byte{sumBytes(f, payload), sumBytes(form(uint64(f[len(f)-1])), payload)} {
			refused(t, join(form(2), f, sum, payload), api.ErrForm)
		}
	}
	for _, long := range [][]byte{{0xf8, 2}, {0xf9, 0, 2}, {0xff, 0, 0, 0, 0, 0, 0, 0, 2}} {
		refused(t, join(long, form(1), sumBytes(form(1), payload), payload), api.ErrForm)
	}
}

func TestUnframeOfAnotherSum(t *testing.T) {
	f, payload := form(300), []byte("payload")
	right := sumBytes(f, payload)
	for _, sum := range [][]byte{
		{right[3], right[2], right[1], right[0]},
		sumBytes(nil, payload),
		sumBytes(payload, f),
		sumBytes(join(form(7), f), payload),
		{^right[0], ^right[1], ^right[2], ^right[3]},
	} {
		refused(t, join(form(7), f, sum, payload), api.ErrSum)
	}
}

func TestUnframeWithEachPartBroken(t *testing.T) {
	for _, whole := range [][]byte{framed(0, nil), framed(1, []byte("ab")), framed(300, []byte("payload")), framed(math.MaxUint64, []byte{0, 0, 0}), framed(9, bytes.Repeat([]byte{3}, 250))} {
		for i := range whole {
			for c := range 256 {
				b := bytes.Clone(whole)
				b[i] = byte(c)
				unframes(t, b)
				unframes(t, b[:len(b)-1])
			}
			unframes(t, join(whole[:i], whole[i+1:]))           // a byte is gone
			unframes(t, join(whole[:i], []byte{0}, whole[i:]))  // one is too many
			unframes(t, join(whole[:i], whole[i:], whole[:i]))  // another frame's beginning follows
			unframes(t, join(whole[i:], whole[:i]))             // it begins elsewhere
			unframes(t, join(whole[:i], []byte{0xff, 0, 0, 1})) // it goes on otherwise
		}
	}
}

func TestUnframeOfAnyBytes(t *testing.T) {
	d := roll(8)
	for range 50000 {
		b := d.Bytes(d.Below(20))
		for i := range min(3, len(b)) {
			if d.Below(2) == 0 {
				b[i] = byte(d.Below(4))
			}
		}
		unframes(t, b)
	}
}

func TestUnframeIsNewMemory(t *testing.T) {
	want := []byte("payload")
	b, _ := roomy(framed(300, want))
	kept := bytes.Clone(b)
	_, first, _, _ := wire.Unframe(b)
	_, second, _, _ := wire.Unframe(b)
	spoil(first)
	if !bytes.Equal(b, kept) || !bytes.Equal(second, want) {
		t.Error("a payload shares memory with the frame, or with another answer")
	}
	spoil(b)
	if !bytes.Equal(second, want) {
		t.Error("a payload shares memory with the frame")
	}
}

// P5.11

func TestFramesThereAndBack(t *testing.T) {
	d := roll(9)
	for range 5000 {
		number, payload := d.number(), d.Bytes(d.Below(40))
		f := made(t, number, payload)
		for i := range f {
			refused(t, f[:i], api.ErrShort)
		}
		n, got, size, err := wire.Unframe(join(f, d.Bytes(d.Below(10))))
		if n != number || !bytes.Equal(got, payload) || size != len(f) || err != nil {
			t.Fatalf("Unframe(Frame(%d, % x)) is %d, % x, %d, %v", number, payload, n, got, size, err)
		}
	}
}

func TestBeginningsOfLongFrames(t *testing.T) {
	d := roll(10)
	for _, n := range []int{247, 248, 256, 65535, 65536} {
		f := made(t, math.MaxUint64, d.Bytes(n))
		head := len(f) - n
		for i := range head + 10 {
			refused(t, f[:i], api.ErrShort)
			refused(t, f[:len(f)-1-i], api.ErrShort)
		}
		unframes(t, f)
	}
}

func TestFramesOneBehindTheOther(t *testing.T) {
	d := roll(11)
	var all []byte
	for n := range 100 {
		all = append(all, made(t, uint64(n), d.Bytes(n))...)
	}
	for n := range 100 {
		number, payload, size, err := wire.Unframe(all)
		if number != uint64(n) || len(payload) != n || err != nil {
			t.Fatalf("frame %d is %d, %d bytes, %v", n, number, len(payload), err)
		}
		all = all[size:]
	}
	refused(t, all, api.ErrShort)
}

// P5.12

// changes are what four neighbouring bytes may be turned by: each bit, each two bits, each byte wholly, and many more.
func changes() []uint32 {
	l := []uint32{0xffffffff, 0xff, 0xff00, 0xff0000, 0xff000000, 0x82f63b78, 0x1edc6f41}
	for i := range 32 {
		for j := range i + 1 {
			l = append(l, 1<<i|1<<j)
		}
	}
	d := roll(12)
	for range 300 {
		if x := uint32(d.Next()) >> d.Below(24); x != 0 {
			l = append(l, x)
		}
	}
	return l
}

// turn changes the bytes from a place on, at most four, that lie within b; it tells whether it changed one.
func turn(b []byte, by uint32) bool {
	done := false
	for i := range min(4, len(b)) {
		c := byte(by >> (8 * i))
		b[i] ^= c
		done = done || c != 0
	}
	return done
}

func TestABurstIsSeen(t *testing.T) {
	d := roll(13)
	for _, n := range []int{0, 1, 2, 3, 4, 5, 12, 33, 248} {
		whole := made(t, d.number(), d.Bytes(n))
		sumAt := len(whole) - n - 4
		for at := sumAt; at < len(whole); at++ {
			if at > sumAt && at < sumAt+4 {
				continue // the sum and the payload are not changed both
			}
			end := len(whole)
			if at == sumAt {
				end = at + 4
			}
			for _, by := range changes() {
				b := bytes.Clone(whole)
				if turn(b[at:end], by) {
					refused(t, b, api.ErrSum)
				}
			}
		}
	}
}

func TestABurstInALongFrame(t *testing.T) {
	d := roll(14)
	whole := made(t, 1<<40, d.Bytes(api.MaxFrame))
	head := len(whole) - api.MaxFrame
	for _, at := range []int{head, head + 1, head + 1000, len(whole) - 5, len(whole) - 4, len(whole) - 1} {
		for _, by := range []uint32{1, 0x80000000, 0xffffffff, 0x82f63b78, uint32(d.Next()) | 1} {
			b := bytes.Clone(whole)
			if turn(b[at:], by) {
				refused(t, b, api.ErrSum)
			}
		}
	}
}
