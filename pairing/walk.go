package pairing

import (
	"reliquary/api"
	"reliquary/tower"
)

const (
	// seed is the number by whose bits the walk goes.
	seed     = 0xd201000000010000
	wordBits = 64
)

// walk is the product of several pairs' walks: what is squared is squared once.
type walk struct {
	product api.E12
	tracks  []track
}

// walked tells the product of the walks of pairs of points of the groups. A pair
// with the zero has the number 1, and does not walk.
func walked(p []api.P1, q []api.P2) api.E12 {
	w := walk{product: tower.One()}
	for i := range p {
		if !p[i].Zero && !q[i].Zero {
			w.tracks = append(w.tracks, trackOf(p[i], q[i]))
		}
	}
	w.goAll()
	return tower.Conj(w.product)
}

// goAll shifts the bits of seed out, but for the first one.
func (w *walk) goAll() {
	word := uint64(seed)
	for range wordBits - 1 {
		word <<= 1
		w.double()
		if word>>(wordBits-1) == 1 {
			w.add()
		}
	}
}

func (w *walk) double() {
	w.product = tower.Mul(w.product, w.product)
	for i := range w.tracks {
		w.product = tower.Mul(w.product, w.tracks[i].double())
	}
}

func (w *walk) add() {
	for i := range w.tracks {
		w.product = tower.Mul(w.product, w.tracks[i].add())
	}
}
