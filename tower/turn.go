package tower

import (
	"reliquary/api"
	"reliquary/words"
)

// turns is how often an element is turned till it is itself again.
const turns = 12

// w turned once is w times this element: 1 + i to the power (p - 1) / 6.
const (
	turnedFirst  = "1904d3bf02bb0667c231beb4202c0d1f0fd603fd3cbd5f4f7b2443d784bab9c4f67ea53d63e7813d8d0775ed92235fb8"
	turnedSecond = "fc3e2b36c4e03288e9e902231f9fb854a14787b6c7b36fec0c8ec971f63c5f282d5ac14d6c7ec22cf78a126ddc4af3"
)

// Frob tells an element to the power p^n.
func Frob(a api.E12, n int) api.E12 {
	// The rest of an n below 0 is not above 0.
	return great().turn(leftAll(a), (n%turns+turns)%turns)
}

// turn turns each part, and the power of w that stands with it. Numbers are
// below p, and n is not below 0.
func (f field) turn(a api.E12, n int) api.E12 {
	if n%2 == 1 {
		for k := range a {
			a[k] = Conj2(a[k])
		}
	}
	factor := f.factorOf(n)
	power := factor
	for k := 1; k < len(a); k++ {
		a[k] = f.mul2(a[k], power)
		power = f.mul2(power, factor)
	}
	return a
}

// factorOf tells by what w is multiplied when it is turned n times: each time
// what it was multiplied by is turned with it.
func (f field) factorOf(n int) api.E2 {
	once, factor := factorOfOne(), one2()
	for range n {
		factor = f.mul2(Conj2(factor), once)
	}
	return factor
}

func factorOfOne() api.E2 {
	first, _ := words.Parse(turnedFirst)
	second, _ := words.Parse(turnedSecond)
	return api.E2{first, second}
}
