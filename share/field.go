package share

import (
	"slices"

	"reliquary/api"
	"reliquary/modulus"
	"reliquary/suite"
)

// field is what is done with a suite's scalars.
type field struct {
	*modulus.Modulus
}

// fieldOf tells the field of a suite to calls that are handed these ids and scalars.
func fieldOf(s api.Suite, ids []int, scalars []api.Num) (field, api.Errno) {
	r, e := suite.Order(s)
	if e != api.OK {
		return field{}, e
	}
	if tooMany(len(ids)) || tooMany(len(scalars)) {
		return field{}, api.ErrLong
	}
	m, e := modulus.New(r)
	if e != api.OK {
		return field{}, e
	}
	f := field{m}
	if !f.has(scalars) {
		return field{}, api.ErrArg
	}
	return f, api.OK
}

// has tells whether numbers are scalars: of these nothing is taken away.
func (f field) has(numbers []api.Num) bool {
	for _, n := range numbers {
		if f.Reduce(n) != n {
			return false
		}
	}
	return true
}

// value tells a polynomial's value at a place. It begins with the last coefficient, so
// that each step multiplies all that came ahead of it by the place once more.
func (f field) value(coefs []api.Num, at int) api.Num {
	var sum api.Num
	for i := len(coefs) - 1; i >= 0; i-- {
		sum = f.Add(f.Mul(sum, number(at)), coefs[i])
	}
	return sum
}

// number tells a place as a scalar: each suite's prime is above all places.
func number(at int) api.Num { return api.Num{uint64(at)} }

// between tells how far a place is from another one.
func (f field) between(from, to int) api.Num { return f.Sub(number(to), number(from)) }

// over tells a number divided by one that is not 0, which always has its inverse: the
// suite's prime is a prime.
func (f field) over(a, b api.Num) api.Num {
	inverse, _ := f.Inv(b)
	return f.Mul(a, inverse)
}

// lagrange tells the Lagrange numbers of ids.
func (f field) lagrange(ids []int, at int) []api.Num {
	numbers := make([]api.Num, len(ids))
	for i := range ids {
		numbers[i] = f.lagrangeOf(i, ids, at)
	}
	return numbers
}

// lagrangeOf tells the Lagrange number of the id at an index. It divides but once: an
// inverse costs what many products do.
func (f field) lagrangeOf(index int, ids []int, at int) api.Num {
	above, below := number(1), number(1)
	for i, id := range ids {
		if i != index {
			above = f.Mul(above, f.between(id, at))
			below = f.Mul(below, f.between(id, ids[index]))
		}
	}
	return f.over(above, below)
}

// join tells the value at a place of shares.
func (f field) join(ids []int, shares []api.Num, at int) api.Num {
	var sum api.Num
	for i, factor := range f.lagrange(ids, at) {
		sum = f.Add(sum, f.Mul(factor, shares[i]))
	}
	return sum
}

// degree tells the degree of shares. It is found by differences, divided by how far
// their ids are apart, of differences: a polynomial's are all 0 from those on that span
// more ids than its degree, and the first of each span is what its power adds.
func (f field) degree(ids []int, shares []api.Num) int {
	degree, differences := 0, slices.Clone(shares)
	for span := 1; span < len(ids); span++ {
		for i := len(ids) - 1; i >= span; i-- {
			step := f.Sub(differences[i], differences[i-1])
			differences[i] = f.over(step, f.between(ids[i-span], ids[i]))
		}
		if differences[span] != (api.Num{}) {
			degree = span
		}
	}
	return degree
}
