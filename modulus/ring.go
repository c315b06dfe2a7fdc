package modulus

import (
	"reliquary/api"
	"reliquary/words"
)

// Reduce tells what is left of a number.
func (m *Modulus) Reduce(a api.Num) api.Num {
	if !m.made() {
		return api.Num{}
	}
	if words.Compare(a, m.n) < 0 {
		return a
	}
	// A sum of two that are below n needs no more than this.
	rest, _ := words.Sub(a, m.n)
	if words.Compare(rest, m.n) < 0 {
		return rest
	}
	return m.product(rest, m.one)
}

// Wide tells what is left of a number in two halves.
func (m *Modulus) Wide(low, high api.Num) api.Num {
	if !m.made() {
		return api.Num{}
	}
	// What down tells of low, and high, are together the number without 2^384,
	// which the product with its square puts back.
	sum, carried := words.Add(high, m.down(low))
	if carried {
		sum, _ = words.Sub(sum, m.n)
	}
	return m.product(sum, m.square)
}

// Add, Sub, Neg, Mul, Pow: what is left of these.

func (m *Modulus) Add(a, b api.Num) api.Num {
	if !m.made() {
		return api.Num{}
	}
	sum, carried := words.Add(a, b)
	if carried {
		sum, _ = words.Add(m.Reduce(a), m.Reduce(b))
	}
	return m.Reduce(sum)
}

func (m *Modulus) Sub(a, b api.Num) api.Num {
	if !m.made() {
		return api.Num{}
	}
	rest, borrowed := words.Sub(a, b)
	if !borrowed {
		return m.Reduce(rest)
	}
	// The sum carries just where n makes up for all that was borrowed.
	sum, carried := words.Add(rest, m.n)
	if carried {
		return sum
	}
	negative, _ := words.Sub(m.n, m.Reduce(b))
	return m.Add(a, negative)
}

func (m *Modulus) Neg(a api.Num) api.Num { return m.Sub(api.Num{}, a) }

func (m *Modulus) Mul(a, b api.Num) api.Num {
	if !m.made() {
		return api.Num{}
	}
	return m.product(b, m.product(a, m.square))
}

func (m *Modulus) Pow(a, e api.Num) api.Num {
	if !m.made() {
		return api.Num{}
	}
	base, power := m.product(a, m.square), m.one
	for i := words.Len(e) - 1; i >= 0; i-- {
		power = m.product(power, power)
		if words.Bit(e, i) == 1 {
			power = m.product(power, base)
		}
	}
	return m.product(power, words.Of(1))
}
