package tests

import (
	"math"

	"loop.example/g01249/impl"
)

// This is the calculation of chapter 2 a second time, by the steps of oracle_test.go.
// Its functions return all results as a list.

const (
	codeOK       = int64(impl.OK)
	codeInvalid  = int64(impl.ErrInvalid)
	codeRange    = int64(impl.ErrRange)
	codeLimit    = int64(impl.ErrLimit)
	codeState    = int64(impl.ErrState)
	codeSyntax   = int64(impl.ErrSyntax)
	codeNotFound = int64(impl.ErrNotFound)
)

func wantLess(p, q impl.Point) impl.Point { return numberwise(difference, p, q) }

// sums adds points from left to right.
func sums(first impl.Point, others ...impl.Point) impl.Point {
	for _, p := range others {
		first = numberwise(sum, first, p)
	}
	return first
}

// wantFrame returns the frame of a camera, and whether this and some points are valid.
func wantFrame(c impl.Camera, points ...impl.Point) (impl.Frame, bool) {
	for _, p := range append([]impl.Point{c.Eye, c.At, c.Up}, points...) {
		if !plain(p[:]...) {
			return impl.Frame{}, false
		}
	}
	if !plain(c.Far, c.Near) || c.Far < 0.015625 || c.Near < 0.015625 {
		return impl.Frame{}, false
	}
	ahead, code := wantUnitOfAny(wantLess(c.At, c.Eye))
	if code != impl.OK {
		return impl.Frame{}, false
	}
	right, code := wantUnitOfAny(wantCross(ahead, c.Up))
	if code != impl.OK {
		return impl.Frame{}, false
	}
	return impl.Frame{Ahead: ahead, Right: right, Up: wantCross(right, ahead)}, true
}

func wantFrameOf(c impl.Camera) []any {
	f, valid := wantFrame(c)
	if !valid {
		return all(impl.Frame{}, codeInvalid)
	}
	return all(f, codeOK)
}

func wantDepth(c impl.Camera, p impl.Point) float32 {
	f, _ := wantFrame(c)
	return wantDot(wantLess(p, c.Eye), f.Ahead)
}

func wantDepthOf(c impl.Camera, p impl.Point) []any {
	if _, valid := wantFrame(c, p); !valid {
		return all(float32(0), codeInvalid)
	}
	return all(wantDepth(c, p), codeOK)
}

func wantSpot(c impl.Camera, way impl.Point, depth float32) impl.Spot {
	f, _ := wantFrame(c)
	return impl.Spot{
		product(quotient(wantDot(way, f.Right), depth), c.Far),
		product(quotient(wantDot(way, f.Up), depth), c.Far),
	}
}

func wantProjectPoint(c impl.Camera, p impl.Point) []any {
	if _, valid := wantFrame(c, p); !valid {
		return all(impl.Spot{}, float32(0), codeInvalid)
	}
	depth := wantDepth(c, p)
	if depth < c.Near {
		return all(impl.Spot{}, float32(0), codeNotFound)
	}
	return all(wantSpot(c, wantLess(p, c.Eye), depth), depth, codeOK)
}

func wantRay(c impl.Camera, s impl.Spot) impl.Point {
	f, _ := wantFrame(c)
	return sums(wantScale(f.Ahead, c.Far), wantScale(f.Right, s[0]), wantScale(f.Up, s[1]))
}

func wantRayThrough(c impl.Camera, s impl.Spot) []any {
	if _, valid := wantFrame(c); !valid || !plain(s[:]...) {
		return all(impl.Point{}, codeInvalid)
	}
	return two(wantUnitOfAny(wantRay(c, s)))
}

func wantPointAt(c impl.Camera, s impl.Spot, depth float32) []any {
	if _, valid := wantFrame(c); !valid || !plain(s[:]...) {
		return all(impl.Point{}, codeInvalid)
	}
	if !plain(depth) || depth < c.Near {
		return all(impl.Point{}, codeRange)
	}
	return all(sums(c.Eye, wantScale(wantRay(c, s), quotient(depth, c.Far))), codeOK)
}

func wantVanishingSpot(c impl.Camera, way impl.Point) []any {
	f, valid := wantFrame(c, way)
	if !valid {
		return all(impl.Spot{}, codeInvalid)
	}
	ahead := wantDot(way, f.Ahead)
	if math.Abs(float64(ahead)) < float64(limit) {
		return all(impl.Spot{}, codeNotFound)
	}
	return all(wantSpot(c, way, ahead), codeOK)
}

func wantHorizonOf(c impl.Camera, x impl.Plane) []any {
	f, valid := wantFrame(c)
	if !valid || invalid(x) {
		return all(impl.Point{}, codeInvalid)
	}
	opposite := math.Float32frombits(math.Float32bits(product(wantDot(x.N, f.Ahead), c.Far)) ^ 1<<31)
	return all(impl.Point{wantDot(x.N, f.Right), wantDot(x.N, f.Up), opposite}, codeOK)
}

func wantSeenOnPlane(c impl.Camera, x impl.Plane, s impl.Spot) []any {
	if _, valid := wantFrame(c); !valid || invalid(x) || !plain(s[:]...) {
		return all(impl.Point{}, codeInvalid)
	}
	p, share, code := wantMeetLineOfAny(x, c.Eye, sums(c.Eye, wantRay(c, s)))
	if code != impl.OK {
		return all(impl.Point{}, code)
	}
	if share < 0 || wantDepth(c, p) < c.Near {
		return all(impl.Point{}, codeNotFound)
	}
	return all(p, codeOK)
}

// wantClip returns both ends of what is left of a line, how deep they count, and whether there is anything left.
func wantClip(c impl.Camera, a, b impl.Point) ([2]impl.Point, [2]float32, bool) {
	from, to := wantDepth(c, a), wantDepth(c, b)
	on := wantBetween(a, b, quotient(difference(c.Near, from), difference(to, from)))
	switch {
	case from < c.Near && to < c.Near:
		return [2]impl.Point{}, [2]float32{}, false
	case from < c.Near:
		return [2]impl.Point{on, b}, [2]float32{c.Near, to}, true
	case to < c.Near:
		return [2]impl.Point{a, on}, [2]float32{from, c.Near}, true
	}
	return [2]impl.Point{a, b}, [2]float32{from, to}, true
}

func wantClipAhead(c impl.Camera, a, b impl.Point) []any {
	if _, valid := wantFrame(c, a, b); !valid {
		return all(impl.Point{}, impl.Point{}, false, codeInvalid)
	}
	ends, _, seen := wantClip(c, a, b)
	return all(ends[0], ends[1], seen, codeOK)
}

func wantLine(c impl.Camera, a, b impl.Point) ([2]impl.Spot, bool) {
	ends, depths, seen := wantClip(c, a, b)
	if !seen {
		return [2]impl.Spot{}, false
	}
	return [2]impl.Spot{
		wantSpot(c, wantLess(ends[0], c.Eye), depths[0]),
		wantSpot(c, wantLess(ends[1], c.Eye), depths[1]),
	}, true
}

func wantProjectLine(c impl.Camera, a, b impl.Point) []any {
	if _, valid := wantFrame(c, a, b); !valid {
		return all(impl.Spot{}, impl.Spot{}, false, codeInvalid)
	}
	spots, seen := wantLine(c, a, b)
	return all(spots[0], spots[1], seen, codeOK)
}

func wantProjectLines(c impl.Camera, list [][2]impl.Point) []any {
	var none [][2]impl.Spot
	for _, line := range list {
		if _, valid := wantFrame(c, line[0], line[1]); !valid {
			return all(none, []int64{}, codeInvalid)
		}
	}
	if _, valid := wantFrame(c); !valid {
		return all(none, []int64{}, codeInvalid)
	}
	if len(list) > 200 {
		return all(none, []int64{}, codeLimit)
	}
	spots, indices := none, []int64{}
	for i, line := range list {
		if both, seen := wantLine(c, line[0], line[1]); seen {
			spots, indices = append(spots, both), append(indices, int64(i))
		}
	}
	return all(spots, indices, codeOK)
}

// wantCamera returns a camera that has been moved, if it is valid.
func wantCamera(c impl.Camera) (impl.Camera, int64) {
	if _, valid := wantFrame(c); !valid {
		return impl.Camera{}, impl.ErrState
	}
	return c, impl.OK
}

func wantMove(c impl.Camera, right, up, ahead float32) (impl.Camera, int64) {
	f, valid := wantFrame(c)
	if !valid {
		return impl.Camera{}, impl.ErrInvalid
	}
	if !plain(right, up, ahead) {
		return impl.Camera{}, impl.ErrRange
	}
	by := sums(wantScale(f.Right, right), wantScale(f.Up, up), wantScale(f.Ahead, ahead))
	c.Eye, c.At = sums(c.Eye, by), sums(c.At, by)
	return wantCamera(c)
}

// wantTurnedCamera is what TurnCamera returns, and, tilted, what TiltCamera does.
func wantTurnedCamera(c impl.Camera, turns float32, tilted bool) (impl.Camera, int64) {
	f, valid := wantFrame(c)
	if !valid {
		return impl.Camera{}, impl.ErrInvalid
	}
	if !finite(turns) || turns < -1000 || turns > 1000 {
		return impl.Camera{}, impl.ErrRange
	}
	axis := f.Up
	if tilted {
		axis = f.Right
		c.Up, _ = wantTurnOfAny(axis, turns, c.Up)
	}
	way, code := wantTurnOfAny(axis, turns, wantLess(c.At, c.Eye))
	if code != impl.OK {
		return impl.Camera{}, code
	}
	c.At = sums(c.Eye, way)
	return wantCamera(c)
}

func wantTwoViews(c impl.Camera, apart float32) []any {
	left, code := wantMove(c, product(product(apart, -1), 0.5), 0, 0)
	right, other := wantMove(c, product(apart, 0.5), 0, 0)
	if code != impl.OK || other != impl.OK {
		return all(impl.Camera{}, impl.Camera{}, max(code, other))
	}
	return all(left, right, codeOK)
}

func wantDepthFromTwo(c impl.Camera, apart float32, left, right impl.Spot) []any {
	if _, valid := wantFrame(c); !valid || !plain(left[:]...) || !plain(right[:]...) {
		return all(float32(0), codeInvalid)
	}
	if !plain(apart) {
		return all(float32(0), codeRange)
	}
	gap := difference(left[0], right[0])
	depth := quotient(product(apart, c.Far), gap)
	if gap <= 0 || !finite(depth) {
		return all(float32(0), codeState)
	}
	return all(depth, codeOK)
}
