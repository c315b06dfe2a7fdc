package curve

import "reliquary/api"

const (
	wordBits   = 64
	digitBits  = 4
	digits     = 1 << digitBits
	wordDigits = wordBits / digitBits
	most       = 32 // points that are multiplied in one go: with more there is little to be won, and room to be lost
)

// byWord multiplies a point by a word of few bits.
func (g group[E]) byWord(p triple[E], word uint64) triple[E] {
	all := g.zero()
	for range wordBits {
		all = g.twice(all)
		if word>>(wordBits-1) == 1 {
			all = g.together(all, p)
		}
		word <<= 1
	}
	return all
}

// table is a point multiplied by each digit.
type table[E comparable] [digits]triple[E]

func (g group[E]) tableOf(p point[E]) table[E] {
	t := table[E]{g.zero(), g.lift(p)}
	for i := 2; i < digits; i += 2 {
		t[i] = g.twice(t[i/2])
		t[i+1] = g.together(t[i], t[1])
	}
	return t
}

// some multiplies points by their numbers and adds them, all in one go, so that
// what is gathered is doubled once for all of them.
func (g group[E]) some(l []point[E], n []api.Num) triple[E] {
	tables := make([]table[E], len(l))
	for i, p := range l {
		tables[i] = g.tableOf(p)
	}
	all := g.zero()
	row := make([]uint64, len(n))
	for i := len(api.Num{}) - 1; i >= 0; i-- {
		for k := range n {
			row[k] = n[k][i]
		}
		all = g.byRow(all, tables, row)
	}
	return all
}

// byRow goes on with a word of each number: its digits are shifted out, and tell
// which multiples are added.
func (g group[E]) byRow(all triple[E], tables []table[E], row []uint64) triple[E] {
	for range wordDigits {
		for range digitBits {
			all = g.twice(all)
		}
		for k, word := range row {
			if digit := word >> (wordBits - digitBits); digit > 0 {
				all = g.together(all, tables[k][digit])
			}
			row[k] = word << digitBits
		}
	}
	return all
}
