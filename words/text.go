package words

import "reliquary/api"

const digits = "0123456789abcdef"

// Bytes tells a number's 48 bytes.
func Bytes(a api.Num) []byte {
	b := make([]byte, numBytes)
	for i := range b {
		b[numBytes-1-i] = byte(a[i/wordBytes] >> (8 * (i % wordBytes)))
	}
	return b
}

// Read reads a number.
func Read(b []byte) (api.Num, api.Errno) {
	if len(b) > numBytes {
		return api.Num{}, api.ErrLong
	}
	var a api.Num
	for i := range b {
		a[i/wordBytes] |= uint64(b[len(b)-1-i]) << (8 * (i % wordBytes))
	}
	return a, api.OK
}

// Text tells a number's digits.
func Text(a api.Num) string {
	text := make([]byte, max(1, (Len(a)+3)/4))
	for i := range text {
		text[len(text)-1-i] = digits[a[i/wordDigits]>>(4*(i%wordDigits))&15]
	}
	return string(text)
}

// Parse reads a number's digits.
func Parse(s string) (api.Num, api.Errno) {
	if len(s) > numDigits {
		return api.Num{}, api.ErrLong
	}
	if s == "" || s[0] == '0' && len(s) > 1 {
		return api.Num{}, api.ErrBytes
	}
	var a api.Num
	for i := range len(s) {
		d, ok := digit(s[len(s)-1-i])
		if !ok {
			return api.Num{}, api.ErrBytes
		}
		a[i/wordDigits] |= d << (4 * (i % wordDigits))
	}
	return a, api.OK
}

// digit tells what a digit counts.
func digit(c byte) (uint64, bool) {
	switch {
	case '0' <= c && c <= '9':
		return uint64(c - '0'), true
	case 'a' <= c && c <= 'f':
		return uint64(c-'a') + 10, true
	}
	return 0, false
}
