package cipher

import "math/bits"

// blockSize is how many bytes a block has.
const blockSize = 64

// counterAt is the place of the counter among a block's numbers.
const counterAt = 12

// state is a block's sixteen numbers.
type state [16]uint32

// begun tells the numbers that a block begins with.
func begun(key, nonce []byte, counter uint32) state {
	s := state{0x61707865, 0x3320646e, 0x79622d32, 0x6b206574}
	for i := range keySize / 4 {
		s[4+i] = number32(key[4*i:])
	}
	s[counterAt] = counter
	for i := range nonceSize / 4 {
		s[counterAt+1+i] = number32(nonce[4*i:])
	}
	return s
}

// block tells the bytes of the block that begins with these numbers.
func (s state) block() [blockSize]byte {
	var b [blockSize]byte
	for i, x := range s.mixed() {
		b[4*i], b[4*i+1], b[4*i+2], b[4*i+3] = byte(x), byte(x>>8), byte(x>>16), byte(x>>24)
	}
	return b
}

// mixed tells the numbers behind all rounds, with those at the beginning added.
func (s state) mixed() state {
	x := s
	for range 10 {
		quarter(&x[0], &x[4], &x[8], &x[12])
		quarter(&x[1], &x[5], &x[9], &x[13])
		quarter(&x[2], &x[6], &x[10], &x[14])
		quarter(&x[3], &x[7], &x[11], &x[15])
		quarter(&x[0], &x[5], &x[10], &x[15])
		quarter(&x[1], &x[6], &x[11], &x[12])
		quarter(&x[2], &x[7], &x[8], &x[13])
		quarter(&x[3], &x[4], &x[9], &x[14])
	}
	for i := range x {
		x[i] += s[i]
	}
	return x
}

// quarter does a quarter round of four places.
func quarter(a, b, c, d *uint32) {
	*a += *b
	*d = bits.RotateLeft32(*d^*a, 16)
	*c += *d
	*b = bits.RotateLeft32(*b^*c, 12)
	*a += *b
	*d = bits.RotateLeft32(*d^*a, 8)
	*c += *d
	*b = bits.RotateLeft32(*b^*c, 7)
}

// stream writes the stream of a text to a list that is as long. The numbers
// are a copy, so that counting on is not seen outside.
func stream(out []byte, s state, b []byte) {
	for len(b) > 0 {
		k := s.block()
		s[counterAt]++
		n := min(len(b), blockSize)
		for i, x := range b[:n] {
			out[i] = x ^ k[i]
		}
		out, b = out[n:], b[n:]
	}
}

// number32 tells the number of a text's first four bytes, the lowest first.
func number32(b []byte) uint32 {
	return uint32(b[0]) | uint32(b[1])<<8 | uint32(b[2])<<16 | uint32(b[3])<<24
}
