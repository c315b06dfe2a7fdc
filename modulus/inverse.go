package modulus

import (
	"math/bits"

	"reliquary/api"
	"reliquary/words"
)

const (
	wordBits = 64
	numBits  = 384
)

// Inv tells the number that makes 1 with another one.
func (m *Modulus) Inv(a api.Num) (api.Num, api.Errno) {
	if !m.made() {
		return api.Num{}, api.ErrNil
	}
	w := walk{odd: m.n, rest: m.Reduce(a), ofRest: words.Of(1)}
	for w.rest != (api.Num{}) {
		w.halve()
		w.subtract()
	}
	if w.odd != words.Of(1) {
		return api.Num{}, api.ErrMissing
	}
	inverse := w.ofOdd
	if !w.turned {
		inverse = m.Neg(inverse)
	}
	return m.divideByPower(inverse, w.halved), api.OK
}

// walk goes down to the greatest divisor that n and a have in common. By n, odd
// times 2^halved leaves what -ofOdd times a does, and rest times 2^halved what
// ofRest times a does (with the signs the other way round, if turned). Odd times
// ofRest and rest times ofOdd are n together, so that neither outgrows it.
type walk struct {
	odd, rest     api.Num
	ofOdd, ofRest api.Num
	halved        int
	turned        bool
}

// halve makes rest odd: where it would have to halve ofRest by n it doubles
// ofOdd instead and counts, as all of that is made up for at once in the end.
func (w *walk) halve() {
	n := trailing(w.rest)
	w.rest = words.Shift(w.rest, -n)
	w.ofOdd = words.Shift(w.ofOdd, n)
	w.halved += n
}

// subtract takes the lesser of two odd numbers from the greater one: that makes
// it even, so that there is something to halve.
func (w *walk) subtract() {
	if words.Compare(w.rest, w.odd) < 0 {
		w.odd, w.rest = w.rest, w.odd
		w.ofOdd, w.ofRest = w.ofRest, w.ofOdd
		w.turned = !w.turned
	}
	w.rest, _ = words.Sub(w.rest, w.odd)
	w.ofRest, _ = words.Add(w.ofRest, w.ofOdd)
}

// trailing tells how many noughts a number's bits end in, at most all of them.
func trailing(a api.Num) int {
	for i, word := range a {
		if word != 0 {
			return i*wordBits + bits.TrailingZeros64(word)
		}
	}
	return numBits
}

// divideByPower tells what, times 2^i, leaves a number that is below n. Each
// product divides by 2^384; the last one is too much by 2^(384 - i).
func (m *Modulus) divideByPower(a api.Num, i int) api.Num {
	for i >= numBits {
		a = m.product(words.Of(1), a)
		i -= numBits
	}
	if i == 0 {
		return a
	}
	return m.product(words.Shift(words.Of(1), numBits-i), a)
}

// Root tells a square root.
func (m *Modulus) Root(a api.Num) (api.Num, api.Errno) {
	if !m.made() {
		return api.Num{}, api.ErrNil
	}
	if m.n[0]%4 == 1 {
		return api.Num{}, api.ErrArg
	}
	more, _ := words.Add(m.n, words.Of(1))
	root := m.Pow(a, words.Shift(more, -2))
	if m.Mul(root, root) != m.Reduce(a) {
		return api.Num{}, api.ErrMissing
	}
	other := m.Neg(root)
	if words.Compare(other, root) < 0 {
		return other, api.OK
	}
	return root, api.OK
}
