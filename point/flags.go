package point

import "slices"

// The bits of the first byte, which X leaves free, for p has but 381 bits.
const (
	always = 128
	zero   = 64
	upper  = 32
	flags  = always | zero | upper
)

// put adds a point's bits to x, the bytes of its X.
func put(x []byte, isZero, isUpper bool) {
	x[0] |= always
	if isZero {
		x[0] |= zero
	}
	if isUpper {
		x[0] |= upper
	}
}

// take parts b into the bytes of an X and the bits; it refuses bits that no point has,
// and a zero beside which anything stands.
func take(b []byte, length int) ([]byte, byte, bool) {
	if len(b) != length || b[0]&always == 0 {
		return nil, 0, false
	}
	x, bits := slices.Clone(b), b[0]&flags
	x[0] &^= flags
	if bits&zero != 0 && (bits&upper != 0 || slices.Max(x) != 0) {
		return nil, 0, false
	}
	return x, bits, true
}
