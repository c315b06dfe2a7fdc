package journal

import (
	"bytes"

	"reliquary/api"
)

const (
	word = 4        // bytes of a length, and of a check
	head = 2 * word // what a frame has ahead of its record
)

// framed tells how many bytes the frame of a record of so many has.
func framed(size int) int { return head + size + word }

// frame tells a record's frame.
func (t *table) frame(b []byte) ([]byte, api.Errno) {
	if len(b) > api.MaxRecord {
		return nil, api.ErrLong
	}
	f := make([]byte, 0, framed(len(b)))
	f = put(f, uint32(len(b)))
	f = put(f, t.check(f))
	f = append(f, b...)
	return put(f, t.check(b)), api.OK
}

// read tells the records of a log's bytes, in memory of their own, and how many bytes
// their frames have.
func (t *table) read(b []byte) ([][]byte, int, api.Errno) {
	var records [][]byte
	left := b
	for len(left) >= head {
		size, e := t.length(left)
		if e != api.OK {
			return nil, 0, e
		}
		if len(left) < framed(size) {
			break
		}
		record := left[head : head+size]
		if !t.holds(record, left[head+size:]) {
			return nil, 0, api.ErrBroken
		}
		records = append(records, bytes.Clone(record))
		left = left[framed(size):]
	}
	return records, len(b) - len(left), api.OK
}

// length tells how many bytes the record has whose frame's head the bytes begin with.
func (t *table) length(b []byte) (int, api.Errno) {
	n := number(b)
	if n > api.MaxRecord || !t.holds(b[:word], b[word:]) {
		return 0, api.ErrBroken
	}
	return int(n), api.OK
}

// holds tells whether the check of bytes stands at the front of what is behind them.
func (t *table) holds(b, behind []byte) bool { return t.check(b) == number(behind) }

// put puts a number behind bytes, its highest byte first.
func put(b []byte, n uint32) []byte {
	return append(b, byte(n>>24), byte(n>>16), byte(n>>8), byte(n))
}

// number tells the number that stands at the front of bytes.
func number(b []byte) uint32 {
	return uint32(b[0])<<24 | uint32(b[1])<<16 | uint32(b[2])<<8 | uint32(b[3])
}
