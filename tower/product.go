package tower

import "reliquary/api"

// An element of twelve parts is one of two times three: three parts with even
// powers of w, and three with odd ones. Within the three a power of w w goes from
// part to part, and the third power of it is 1 + i.

type (
	three [3]api.E2
	wide3 [3]wide2
)

// mul tells a product by three products of three parts. Numbers are below p.
func (f field) mul(a, b api.E12) api.E12 {
	evenA, oddA, evenB, oddB := partsFrom(a, 0), partsFrom(a, 1), partsFrom(b, 0), partsFrom(b, 1)
	even, odd := times3(evenA, evenB), times3(oddA, oddB)
	all := times3(evenA.together(oddA), evenB.together(oddB))
	// Two odd powers make an even one that is higher by w w.
	up := wide3{odd[2].raised(), odd[0], odd[1]}
	var product api.E12
	for k := range even {
		product[2*k] = f.rest2(even[k].plus(up[k]))
		product[2*k+1] = f.rest2(all[k].less(even[k]).less(odd[k]))
	}
	return product
}

// partsFrom tells each second part.
func partsFrom(a api.E12, first int) three {
	return three{a[first], a[first+2], a[first+4]}
}

func (a three) together(b three) three {
	for k := range a {
		a[k] = together2(a[k], b[k])
	}
	return a
}

func together2(a, b api.E2) api.E2 {
	return api.E2{together(a[0], b[0]), together(a[1], b[1])}
}

// times3 tells a product by six products of two parts.
func times3(a, b three) wide3 {
	first, second, third := times2(a[0], b[0]), times2(a[1], b[1]), times2(a[2], b[2])
	cross := func(i, j int) wide2 { return times2(together2(a[i], a[j]), together2(b[i], b[j])) }
	return wide3{
		first.plus(cross(1, 2).less(second).less(third).raised()),
		cross(0, 1).less(first).less(second).plus(third.raised()),
		cross(0, 2).less(first).less(third).plus(second),
	}
}
