package cipher

import "math/bits"

// Which bits of the two words of r are left: all but the four highest of the
// bytes 3, 7, 11, 15, and the two lowest of the bytes 4, 8, 12.
const (
	lowBits  = 0x0ffffffc0fffffff
	highBits = 0x0ffffffc0ffffffc
)

// piece is what is added of a text at once; a tag is as long.
type piece [tagSize]byte

// number is a number of three words. They are fields, and no array, since the
// compiler keeps an array of several words in memory, at each step of each piece.
type number struct {
	low, mid, high uint64
}

// work is a tag that is being worked out. From piece to piece a is below
// 2^130 + 2^128, which is enough: it is brought below 2^130 - 5 in the end.
type work struct {
	a, r, s number
}

// under begins a tag under a one-time key.
func under(key []byte) work {
	return work{
		r: number{low: number64(key) & lowBits, mid: number64(key[8:]) & highBits},
		s: number{low: number64(key[16:]), mid: number64(key[24:])},
	}
}

// add adds a piece, with a number of 2^128 above it, and multiplies.
func (w *work) add(p piece, above uint64) {
	w.a = times(plus(w.a, number{number64(p[:8]), number64(p[8:]), above}), w.r)
}

// addWhole adds a text's whole pieces, and tells what is left of it.
func (w *work) addWhole(b []byte) []byte {
	for ; len(b) >= tagSize; b = b[tagSize:] {
		w.add(piece(b), 1)
	}
	return b
}

// addLast adds what is left of a text whose byte 1 comes right behind it.
func (w *work) addLast(b []byte) {
	if len(b) > 0 {
		var p piece
		p[copy(p[:], b)] = 1
		w.add(p, 0)
	}
}

// addFilled adds a text that is filled with bytes 0 to whole pieces.
func (w *work) addFilled(b []byte) {
	if rest := w.addWhole(b); len(rest) > 0 {
		var p piece
		copy(p[:], rest)
		w.add(p, 1)
	}
}

// tag tells the tag of what was added. Where a is 2^130 - 5 or more, 5 more
// come to 2^130 or more; of a less 2^130 - 5 the lower words are those of a
// and 5. No step is left out for one a or the other, so that time tells nothing.
func (w *work) tag() piece {
	past := plus(w.a, number{low: 5}).high >> 2
	t := plus(plus(w.a, number{low: 5 * past}), w.s)
	return pieceOf(t.low, t.mid)
}

// times multiplies by r. With a piece a is below 2^131, so that its highest
// word is below 8; the words of r are below 2^60: what these two make fits into
// one word, with what is carried.
func times(a, r number) number {
	t0, carry := mulAdd(a.low, r.low, 0, 0)
	t1, carry := mulAdd(a.mid, r.low, 0, carry)
	t2 := a.high*r.low + carry
	t1, carry = mulAdd(a.low, r.mid, t1, 0)
	t2, carry = mulAdd(a.mid, r.mid, t2, carry)
	t3 := a.high*r.mid + carry
	return folded(t0, t1, t2, t3)
}

// mulAdd tells the two words of a times b, more and carry together. These are
// at most 2^128 - 1, so that nothing is lost.
func mulAdd(a, b, more, carry uint64) (uint64, uint64) {
	high, low := bits.Mul64(a, b)
	low, c := bits.Add64(low, more, 0)
	high += c
	low, c = bits.Add64(low, carry, 0)
	return low, high + c
}

// folded tells a number with the same rest by 2^130 - 5: since 2^130 leaves 5,
// what stands from bit 130 on is added five times: four times as it stands in
// its words, and once shifted down to its own bits.
func folded(t0, t1, t2, t3 uint64) number {
	rest := number{t0, t1, t2 & 3}
	four := number{low: t2 &^ 3, mid: t3}
	once := number{low: t2>>2 | t3<<62, mid: t3 >> 2}
	return plus(plus(rest, four), once)
}

// plus adds two numbers.
func plus(a, b number) number {
	low, carry := bits.Add64(a.low, b.low, 0)
	mid, carry := bits.Add64(a.mid, b.mid, carry)
	return number{low, mid, a.high + b.high + carry}
}

// sealTag tells the tag of a sealed text and of what comes with it.
func sealTag(key, nonce, sealed, more []byte) piece {
	once := begun(key, nonce, 0).block()
	w := under(once[:keySize])
	w.addFilled(more)
	w.addFilled(sealed)
	w.add(pieceOf(uint64(len(more)), uint64(len(sealed))), 1)
	return w.tag()
}

// same tells whether two tags are the same; how long that takes does not tell
// where they part.
func same(a, b piece) bool {
	var unlike byte
	for i, x := range a {
		unlike |= x ^ b[i]
	}
	return unlike == 0
}

// number64 tells the number of a text's first eight bytes, the lowest first.
func number64(b []byte) uint64 {
	return uint64(number32(b)) | uint64(number32(b[4:]))<<32
}

// pieceOf tells the bytes of two words, the lowest first.
func pieceOf(low, high uint64) piece {
	var p piece
	for i := range 8 {
		p[i], p[8+i] = byte(low>>(8*i)), byte(high>>(8*i))
	}
	return p
}
