package curve

import (
	"witan/api"
	"witan/field"
)

// ratio is the point X = x / (z z), Y = y / (z z z), or Inf, if z is 0: so a sum needs no division, which costs as much as hundreds of products, till the last one is told.
type ratio struct{ x, y, z api.Num }

func add(a, b api.Num) api.Num { return field.Add(api.P, a, b) }

func sub(a, b api.Num) api.Num { return field.Sub(api.P, a, b) }

func mul(a, b api.Num) api.Num { return field.Mul(api.P, a, b) }

// turn tells 0 minus a.
func turn(a api.Num) api.Num { return sub(api.Num{}, a) }

func lift(p api.Point) ratio {
	if p.Inf {
		return ratio{}
	}
	return ratio{p.X, p.Y, api.Num{1}}
}

func (r ratio) isInf() bool { return r.z == api.Num{} }

// point does the one division.
func (r ratio) point() api.Point {
	if r.isInf() {
		return api.Point{Inf: true}
	}
	over := field.Inv(api.P, r.z)
	over2 := mul(over, over)
	return api.Point{X: mul(r.x, over2), Y: mul(r.y, mul(over, over2))}
}

// double tells r and r. With k = m / (2 y z), m = 3 x x, all is told over the powers of 2 y z. Of Inf it tells Inf by itself; Y is never 0, as the number of points is odd.
func double(r ratio) ratio {
	twice := add(r.y, r.y)
	square := mul(twice, twice)
	s := mul(r.x, square)
	xx := mul(r.x, r.x)
	m := add(xx, add(xx, xx))
	x := sub(mul(m, m), add(s, s))
	// The last product is 8 y y y y.
	y := sub(mul(m, sub(s, x)), mul(mul(square, twice), r.y))
	return ratio{x, y, mul(twice, r.z)}
}

// plus tells r and p. With k = rise / (z run), all is told over the powers of z run.
func plus(r ratio, p api.Point) ratio {
	if p.Inf {
		return r
	}
	if r.isInf() {
		return lift(p)
	}
	zz := mul(r.z, r.z)
	run := sub(mul(p.X, zz), r.x)
	rise := sub(mul(p.Y, mul(r.z, zz)), r.y)
	if run == (api.Num{}) {
		return sameX(r, rise)
	}
	run2 := mul(run, run)
	run3 := mul(run, run2)
	s := mul(r.x, run2)
	x := sub(sub(mul(rise, rise), run3), add(s, s))
	y := sub(mul(rise, sub(s, x)), mul(r.y, run3))
	return ratio{x, y, mul(r.z, run)}
}

// sameX tells the sum of r and a point with the same X, rise above it.
func sameX(r ratio, rise api.Num) ratio {
	if rise == (api.Num{}) {
		return double(r)
	}
	return ratio{}
}
