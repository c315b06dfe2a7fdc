package little

import "reliquary/api"

// A point's bytes: a byte that tells the zero, and two numbers.
const (
	numberSize = 8
	pointSize  = 1 + 2*numberSize
)

// Bytes tells the bytes of a point.
func Bytes(s api.Suite, p api.L1) ([]byte, api.Errno) {
	if _, e := kindWith(s, p); e != api.OK {
		return nil, e
	}
	b := make([]byte, pointSize)
	if p.Zero {
		b[0] = 1
	}
	putNumber(b[1:], p.X)
	putNumber(b[1+numberSize:], p.Y)
	return b, api.OK
}

// Read tells the point of the group that has these bytes.
func Read(s api.Suite, b []byte) (api.L1, api.Errno) {
	k, e := kindOf(s)
	if e != api.OK {
		return api.L1{}, e
	}
	if len(b) != pointSize || b[0] > 1 {
		return api.L1{}, api.ErrBytes
	}
	p := api.L1{X: takeNumber(b[1:]), Y: takeNumber(b[1+numberSize:]), Zero: b[0] == 1}
	if !k.onCurve(p) {
		return api.L1{}, api.ErrBytes
	}
	if !k.inGroup(p) {
		return api.L1{}, api.ErrPoint
	}
	return p, api.OK
}

func putNumber(b []byte, n uint64) {
	for i := range numberSize {
		b[i] = byte(n >> (8 * (numberSize - 1 - i)))
	}
}

func takeNumber(b []byte) uint64 {
	var n uint64
	for _, part := range b[:numberSize] {
		n = n<<8 | uint64(part)
	}
	return n
}
