package wire

import (
	"reliquary/api"
	"reliquary/suite"
	"reliquary/words"
)

// reader has the bytes that are not read yet. From its first fault on it is bad, and
// what it tells means nothing: so it is asked once, at the end.
type reader struct {
	rest []byte
	bad  bool
}

// take tells the next n bytes; they are still the caller's memory.
func (r *reader) take(n int) []byte {
	if r.bad || n > len(r.rest) {
		r.bad = true
		return nil
	}
	b := r.rest[:n]
	r.rest = r.rest[n:]
	return b
}

// number reads a number of so many bytes that may be no greater than most.
func (r *reader) number(size, most int) int {
	var n uint64
	for _, b := range r.take(size) {
		n = n<<8 | uint64(b)
	}
	if n > uint64(most) {
		r.bad = true
		return 0
	}
	return int(n)
}

// text reads bytes that have their length ahead.
func (r *reader) text(size, most int) []byte {
	return r.take(r.number(size, most))
}

// scalar reads a number of so many bytes that is below a suite's order.
func (r *reader) scalar(s api.Suite, size int) api.Num {
	n, fault := words.Read(r.take(size))
	r.hold(fault)
	order, fault := suite.Order(s)
	r.hold(fault)
	if words.Compare(n, order) >= 0 {
		r.bad = true
	}
	return n
}

// hold makes the reader bad, if what was made of its bytes was refused.
func (r *reader) hold(fault api.Errno) {
	if fault != api.OK {
		r.bad = true
	}
}

// whole tells whether all was read, and nothing was at fault.
func (r *reader) whole() bool {
	return !r.bad && len(r.rest) == 0
}

// many reads a list that has its count ahead, one by one.
func many[T any](r *reader, size, most int, one func() T) []T {
	var l []T
	for range r.number(size, most) {
		if r.bad {
			return nil
		}
		l = append(l, one())
	}
	return l
}
