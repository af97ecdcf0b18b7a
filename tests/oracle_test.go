package tests

import (
	"math"
	"math/big"

	"loop.example/g01249/impl"
)

// This is the calculation of chapter 1 a second time, each step by itself and made wide.
// Wide numbers have more than twice as many bits as narrow ones,
// so that narrowing the wide result of one step is the same as rounding it once.

func sum(a, b float32) float32        { return float32(float64(a) + float64(b)) }
func difference(a, b float32) float32 { return float32(float64(a) - float64(b)) }
func product(a, b float32) float32    { return float32(float64(a) * float64(b)) }
func quotient(a, b float32) float32   { return float32(float64(a) / float64(b)) }
func root(a float32) float32          { return float32(math.Sqrt(float64(a))) }

func finite(list ...float32) bool {
	for _, a := range list {
		if math.IsNaN(float64(a)) || math.IsInf(float64(a), 0) {
			return false
		}
	}
	return true
}

func plain(list ...float32) bool {
	for _, a := range list {
		if !finite(a) || math.Abs(float64(a)) > 1000000 {
			return false
		}
	}
	return true
}

func numberwise(step func(a, b float32) float32, p, q impl.Point) impl.Point {
	var r impl.Point
	for i := range r {
		r[i] = step(p[i], q[i])
	}
	return r
}

func everywhere(a float32) impl.Point { return impl.Point{a, a, a} }

func wantScale(p impl.Point, by float32) impl.Point {
	return numberwise(product, p, everywhere(by))
}

func wantDot(p, q impl.Point) float32 {
	r := numberwise(product, p, q)
	return sum(sum(r[0], r[1]), r[2])
}

func wantCross(p, q impl.Point) impl.Point {
	var r impl.Point
	for i := range r {
		j, k := (i+1)%3, (i+2)%3
		r[i] = difference(product(p[j], q[k]), product(p[k], q[j]))
	}
	return r
}

func wantLength(p impl.Point) float32 { return root(wantDot(p, p)) }

func wantBetween(p, q impl.Point, share float32) impl.Point {
	return numberwise(sum, p, wantScale(numberwise(difference, q, p), share))
}

// wantUnitOfAny is UnitOf of a point that need not be valid.
func wantUnitOfAny(p impl.Point) (impl.Point, int64) {
	length := wantLength(p)
	if !finite(length) || length < limit {
		return impl.Point{}, impl.ErrState
	}
	return numberwise(quotient, p, everywhere(length)), impl.OK
}

func wantUnit(p impl.Point) (impl.Point, int64) {
	if !plain(p[:]...) {
		return impl.Point{}, impl.ErrInvalid
	}
	return wantUnitOfAny(p)
}

func wantValidPlane(x impl.Plane) bool {
	length := wantLength(x.N)
	return plain(x.D) && plain(x.N[:]...) && length >= float32(0.999) && length <= float32(1.001)
}

func wantPlane(p, n impl.Point) (impl.Plane, int64) {
	unit, code := wantUnitOfAny(n)
	x := impl.Plane{N: unit, D: wantDot(unit, p)}
	if code != impl.OK || !wantValidPlane(x) {
		return impl.Plane{}, impl.ErrState
	}
	return x, impl.OK
}

func wantPlaneAt(p, n impl.Point) (impl.Plane, int64) {
	if !plain(p[:]...) || !plain(n[:]...) {
		return impl.Plane{}, impl.ErrInvalid
	}
	return wantPlane(p, n)
}

func wantPlaneThrough(a, b, c impl.Point) (impl.Plane, int64) {
	if !plain(a[:]...) || !plain(b[:]...) || !plain(c[:]...) {
		return impl.Plane{}, impl.ErrInvalid
	}
	return wantPlane(a, wantCross(numberwise(difference, b, a), numberwise(difference, c, a)))
}

// invalid reports whether ErrInvalid is due.
func invalid(x impl.Plane, list ...impl.Point) bool {
	for _, p := range list {
		if !plain(p[:]...) {
			return true
		}
	}
	return !wantValidPlane(x)
}

func wantSide(x impl.Plane, p impl.Point) (float32, int64) {
	if invalid(x, p) {
		return 0, impl.ErrInvalid
	}
	return difference(wantDot(x.N, p), x.D), impl.OK
}

func wantFoot(x impl.Plane, p impl.Point, times float32) (impl.Point, int64) {
	side, code := wantSide(x, p)
	if code != impl.OK {
		return impl.Point{}, code
	}
	return numberwise(difference, p, wantScale(x.N, product(times, side))), impl.OK
}

func wantMeetLine(x impl.Plane, a, b impl.Point) (impl.Point, float32, int64) {
	if invalid(x, a, b) {
		return impl.Point{}, 0, impl.ErrInvalid
	}
	return wantMeetLineOfAny(x, a, b)
}

// wantMeetLineOfAny is MeetLine of points that need not be valid.
func wantMeetLineOfAny(x impl.Plane, a, b impl.Point) (impl.Point, float32, int64) {
	e := wantDot(x.N, numberwise(difference, b, a))
	if math.Abs(float64(e)) < float64(limit) {
		return impl.Point{}, 0, impl.ErrState
	}
	share := quotient(difference(x.D, wantDot(x.N, a)), e)
	return wantBetween(a, b, share), share, impl.OK
}

func wantMeetPlanes(x, y impl.Plane) (impl.Point, impl.Point, int64) {
	if invalid(x) || invalid(y) {
		return impl.Point{}, impl.Point{}, impl.ErrInvalid
	}
	c := wantCross(x.N, y.N)
	f := wantDot(c, c)
	if f < limit {
		return impl.Point{}, impl.Point{}, impl.ErrState
	}
	way, _ := wantUnitOfAny(c)
	v := numberwise(difference, wantScale(y.N, x.D), wantScale(x.N, y.D))
	return numberwise(quotient, wantCross(v, c), everywhere(f)), way, impl.OK
}

// wantSine calculates with big numbers of 53 bits, each step of which rounds once.
func wantSine(turns float32) float32 {
	if !finite(turns) {
		return nan
	}
	wide := func() *big.Float { return new(big.Float).SetPrec(53) }
	g := float64(turns)
	if nearest := math.RoundToEven(g); nearest != 0 {
		g -= nearest
	}
	x := wide().Mul(big.NewFloat(6.283185307179586), big.NewFloat(g))
	y := wide().Mul(x, x)
	s := big.NewFloat(1)
	for m := int64(14); m >= 1; m-- {
		part := wide().Quo(y, wide().SetInt64((2*m)*(2*m+1)))
		s = wide().Sub(big.NewFloat(1), wide().Mul(part, s))
	}
	narrow, _ := wide().Mul(x, s).Float32()
	return narrow
}

func wantTurn(axis impl.Point, turns float32, p impl.Point) (impl.Point, int64) {
	if !plain(axis[:]...) || !plain(p[:]...) {
		return impl.Point{}, impl.ErrInvalid
	}
	if !finite(turns) || turns < -1000 || turns > 1000 {
		return impl.Point{}, impl.ErrRange
	}
	return wantTurnOfAny(axis, turns, p)
}

// wantTurnOfAny is TurnAround of points that need not be valid.
func wantTurnOfAny(axis impl.Point, turns float32, p impl.Point) (impl.Point, int64) {
	a, code := wantUnitOfAny(axis)
	if code != impl.OK {
		return impl.Point{}, code
	}
	s, c := wantSine(turns), wantSine(sum(turns, 0.25))
	d := product(wantDot(a, p), difference(1, c))
	around := numberwise(sum, wantScale(p, c), wantScale(wantCross(a, p), s))
	return numberwise(sum, around, wantScale(a, d)), impl.OK
}
