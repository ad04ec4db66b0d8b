package wire

import (
	"bytes"
	"math"

	"custody/api"
)

// sumSize is how many bytes of a frame are its sum.
const sumSize = 4

// turns is what four bits that leave the sum turn in it. (A table for whole bytes would be longer than one may be.)
var turns = [16]uint32{
	0x00000000, 0x105ec76f, 0x20bd8ede, 0x30e349b1, 0x417b1dbc, 0x5125dad3, 0x61c69362, 0x7198540d,
	0x82f63b78, 0x92a8fc17, 0xa24bb5a6, 0xb21572c9, 0xc38d26c4, 0xd3d3e1ab, 0xe330a81a, 0xf36e6f75,
}

// Sum is the CRC-32C of bytes.
func Sum(b []byte) uint32 { return ^turned(math.MaxUint32, b) }

// turned is what the 32 bits of a sum become by bytes.
func turned(sum uint32, b []byte) uint32 {
	for _, c := range b {
		sum ^= uint32(c)
		sum = sum>>4 ^ turns[sum%16]
		sum = sum>>4 ^ turns[sum%16]
	}
	return sum
}

// Frame is a payload behind its length, its number and its sum.
func Frame(number uint64, payload []byte) ([]byte, error) {
	if len(payload) > api.MaxFrame {
		return nil, api.ErrMany
	}
	frame := appendForm(nil, uint64(len(payload)))
	frame = appendForm(frame, number)
	frame = appendBytes(frame, uint64(frameSum(number, payload)), sumSize)
	return append(frame, payload...), nil
}

// Unframe is the frame at the beginning of these bytes: its number, its payload, how many bytes it has.
func Unframe(b []byte) (uint64, []byte, int, error) {
	s := source{rest: b} // no copy: there may be much behind the frame
	size := s.Uint(api.MaxFrame)
	number := s.Uint(math.MaxUint64)
	sum := s.take(sumSize)
	payload := s.take(size)
	if s.err != nil {
		return 0, nil, 0, s.err
	}
	if numberOf(sum) != uint64(frameSum(number, payload)) {
		return 0, nil, 0, api.ErrSum
	}
	return number, bytes.Clone(payload), len(b) - s.Left(), nil
}

// frameSum is the sum that a frame bears. A number has but one form, so it is made anew where it was read.
func frameSum(number uint64, payload []byte) uint32 {
	return ^turned(turned(math.MaxUint32, appendForm(nil, number)), payload)
}
