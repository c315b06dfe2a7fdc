package tower

import (
	"reliquary/api"
	"reliquary/words"
)

// Root2 tells one of the two square roots.
func Root2(a api.E2) (api.E2, api.Errno) {
	root, e := great().root2(left2(a))
	if e != api.OK {
		return api.E2{}, e
	}
	return lesser(root, Neg2(root)), api.OK
}

// lesser tells the one whose second part is less, or, if these are the same,
// whose first part is.
func lesser(a, b api.E2) api.E2 {
	order := words.Compare(a[1], b[1])
	if order == 0 {
		order = words.Compare(a[0], b[0])
	}
	if order > 0 {
		return b
	}
	return a
}

// root2 tells any root x + y i of a. As (x + y i) (x - y i) = x x + y y is a root s
// of a's norm, and x x - y y is a[0], x x is half of a[0] + s, and y y of s - a[0].
// If half of a[0] + s is no square then s is not that root but the other one, and
// half of a[0] + s is -y y. What is left to find out is half of a[1] over x or y.
func (f field) root2(a api.E2) (api.E2, api.Errno) {
	if a[1] == (api.Num{}) {
		return f.rootOfNumber(a[0]), api.OK
	}
	s, e := f.by.Root(f.norm(a))
	if e != api.OK {
		return api.E2{}, e
	}
	part, square := f.rootOrOfNegated(f.half(sum(a[0], s)))
	over, _ := f.by.Inv(sum(part, part))
	other := f.by.Mul(a[1], over)
	if !square {
		return api.E2{other, part}, api.OK
	}
	return api.E2{part, other}, api.OK
}

// rootOfNumber tells a root of a number below p: a number, or i times one.
func (f field) rootOfNumber(a api.Num) api.E2 {
	root, square := f.rootOrOfNegated(a)
	if !square {
		return api.E2{{}, root}
	}
	return api.E2{root}
}

// rootOrOfNegated tells a root of a number below p, or, with false, one of the
// negated number: as p leaves 3 by 4, the power (p + 1) / 4 is one of either.
func (f field) rootOrOfNegated(a api.Num) (api.Num, bool) {
	more := together(f.by.N(), words.Of(1))
	root := f.by.Pow(a, words.Shift(more, -2))
	return root, f.by.Mul(root, root) == a
}

// half tells half of a number below p, which p makes even if it is odd.
func (f field) half(a api.Num) api.Num {
	if words.Bit(a, 0) == 1 {
		a = together(a, f.by.N())
	}
	return words.Shift(a, -1)
}
