package digest

import "reliquary/api"

const digits = "0123456789abcdef"

// noDigit has a bit that no digit's value has, so that it is still seen when
// many are put together by or.
const noDigit = 16

// Text tells a digest's text.
func Text(d api.Digest) string {
	var s [2 * len(d)]byte
	for i, b := range d {
		s[2*i], s[2*i+1] = digits[b>>4], digits[b&15]
	}
	return string(s[:])
}

// Parse reads it.
func Parse(s string) (api.Digest, api.Errno) {
	var d api.Digest
	if len(s) != 2*len(d) {
		return api.Digest{}, api.ErrBytes
	}
	var all byte
	for i := range d {
		high, low := value(s[2*i]), value(s[2*i+1])
		all |= high | low
		d[i] = high<<4 | low
	}
	if all&noDigit != 0 {
		return api.Digest{}, api.ErrBytes
	}
	return d, api.OK
}

// value tells what a digit stands for; noDigit, if it is none.
func value(c byte) byte {
	switch {
	case '0' <= c && c <= '9':
		return c - '0'
	case 'a' <= c && c <= 'f':
		return c - 'a' + 10
	}
	return noDigit
}
