package pairing

import (
	"reliquary/api"
	"reliquary/tower"
)

// track is how far the walk of one pair has come. The point T is held by three
// numbers, so that none is divided: x and y are z times those of T.
//
// A line is told times any number of two parts that is not 0: p p - 1 goes into
// the last power, which makes such a number 1. So a slope's divisor and w^6,
// which is 1 + i, are multiplied in, and w^-1 and w^-3 become w^5 and w^3.
type track struct {
	q       api.P2
	atX     api.E2 // -X of the first curve's point
	atY     api.E2 // 1 + i times its Y
	x, y, z api.E2
}

func trackOf(p api.P1, q api.P2) track {
	return track{
		q:   q,
		atX: tower.Neg2(api.E2{p.X}),
		atY: api.E2{p.Y, p.Y},
		x:   q.X, y: q.Y, z: api.E2{{1}},
	}
}

// lineOf tells a line by its slope's two parts, above and below, and by what
// stands with w^3.
func (t *track) lineOf(above, below, third api.E2) api.E12 {
	return api.E12{0: tower.Mul2(below, t.atY), 3: third, 5: tower.Mul2(above, t.atX)}
}

// double tells the line of T and the slope of T and itself, and makes T twice T.
// The slope is 3 x x over 2 y z; as x x x is y y z less 4 (1 + i) z z z, what
// stands with w^3 is y y less 12 (1 + i) z z.
func (t *track) double() api.E12 {
	xx, yy, yz := tower.Mul2(t.x, t.x), tower.Mul2(t.y, t.y), tower.Mul2(t.y, t.z)
	zz12 := tower.Mul2(tower.Mul2(t.z, t.z), api.E2{{12}, {12}})
	line := t.lineOf(thrice(xx), twice(yz), tower.Sub2(yy, zz12))
	yy8 := twice(twice(twice(yy)))
	less, more := tower.Sub2(yy, thrice(zz12)), tower.Add2(yy, zz12)
	t.x = twice(tower.Mul2(less, tower.Mul2(t.x, t.y)))
	t.y = tower.Add2(tower.Mul2(less, more), tower.Mul2(yy8, zz12))
	t.z = tower.Mul2(yy8, yz)
	return line
}

// add tells the line of T and the slope of T and Q, and makes T both added. The
// line goes through Q, too, and is told by Q, which has no third number.
func (t *track) add() api.E12 {
	above := tower.Sub2(tower.Mul2(t.q.Y, t.z), t.y)
	below := tower.Sub2(tower.Mul2(t.q.X, t.z), t.x)
	line := t.lineOf(above, below, tower.Sub2(tower.Mul2(above, t.q.X), tower.Mul2(below, t.q.Y)))
	square := tower.Mul2(below, below)
	cube, part := tower.Mul2(square, below), tower.Mul2(square, t.x)
	rest := tower.Sub2(tower.Mul2(tower.Mul2(above, above), t.z), tower.Add2(cube, twice(part)))
	t.x = tower.Mul2(below, rest)
	t.y = tower.Sub2(tower.Mul2(above, tower.Sub2(part, rest)), tower.Mul2(cube, t.y))
	t.z = tower.Mul2(cube, t.z)
	return line
}

func twice(a api.E2) api.E2 { return tower.Add2(a, a) }

func thrice(a api.E2) api.E2 { return tower.Add2(twice(a), a) }
