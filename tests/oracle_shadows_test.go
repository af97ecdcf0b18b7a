package tests

import (
	"math"
	"math/big"
	"sort"

	"loop.example/g01249/impl"
)

// This is the calculation of chapter 4 a second time, by the steps of oracle_test.go.

type place = [2]float32

func plainPlace(list ...place) bool {
	for _, at := range list {
		if !plain(at[:]...) {
			return false
		}
	}
	return true
}

func wantValidLamp(l impl.Lamp) bool {
	if !plain(l.At[:]...) || !finite(l.Strong) || l.Strong < 0 || l.Strong > 1000 {
		return false
	}
	return !l.Sun || wantLength(l.At) >= 0.0009765625
}

func wantWay(l impl.Lamp, p impl.Point) impl.Point {
	if l.Sun {
		return l.At
	}
	return wantLess(l.At, p)
}

func wantTowards(l impl.Lamp, p impl.Point) (impl.Point, int64) {
	if !wantValidLamp(l) || !plain(p[:]...) {
		return impl.Point{}, codeInvalid
	}
	return wantWay(l, p), codeOK
}

// shadowOf is ShadowOfPoint of valid arguments.
func shadowOf(l impl.Lamp, x impl.Plane, p impl.Point) (impl.Point, int64) {
	w := wantWay(l, p)
	e := wantDot(x.N, w)
	if e < limit && e > -limit {
		return impl.Point{}, codeState
	}
	t := quotient(difference(x.D, wantDot(x.N, p)), e)
	if t > 0 {
		return impl.Point{}, codeNotFound
	}
	return numberwise(sum, p, numberwise(product, everywhere(t), w)), codeOK
}

func wantShadow(l impl.Lamp, x impl.Plane, p impl.Point) (impl.Point, int64) {
	if !wantValidLamp(l) || invalid(x, p) {
		return impl.Point{}, codeInvalid
	}
	return shadowOf(l, x, p)
}

func wantShadowOfFace(l impl.Lamp, x impl.Plane, s impl.Solid, face int64) ([]impl.Point, int64) {
	if !wantValidLamp(l) || invalid(x) || !wantValid(s) {
		return nil, codeInvalid
	}
	if face < 0 || face >= int64(len(s.Faces)) {
		return nil, codeRange
	}
	var shadows []impl.Point
	for _, i := range s.Faces[face] {
		p, code := shadowOf(l, x, s.Corners[i])
		if code != codeOK {
			return nil, code
		}
		shadows = append(shadows, p)
	}
	return shadows, codeOK
}

// basisOf is BasisOf of a valid plane: it looks for a number that no other one, and no one before, is less than.
func basisOf(x impl.Plane) (u, v impl.Point) {
	size := func(k int) float64 { return math.Abs(float64(x.N[k])) }
	k := 2
	if size(0) <= size(1) && size(0) <= size(2) {
		k = 0
	} else if size(1) <= size(2) {
		k = 1
	}
	h := impl.Point{}
	h[k] = 1
	u, _ = wantUnitOfAny(wantCross(h, x.N))
	return u, wantCross(x.N, u)
}

func wantBasis(x impl.Plane) []any {
	if invalid(x) {
		return all(impl.Point{}, impl.Point{}, codeInvalid)
	}
	u, v := basisOf(x)
	return all(u, v, codeOK)
}

func placeOn(x impl.Plane, p impl.Point) place {
	u, v := basisOf(x)
	return place{wantDot(u, p), wantDot(v, p)}
}

func wantPlace(x impl.Plane, p impl.Point) (place, int64) {
	if invalid(x, p) {
		return place{}, codeInvalid
	}
	return placeOn(x, p), codeOK
}

func wantFromPlane(x impl.Plane, at place) (impl.Point, int64) {
	if invalid(x) {
		return impl.Point{}, codeInvalid
	}
	if !plainPlace(at) {
		return impl.Point{}, codeRange
	}
	u, v := basisOf(x)
	return sums(wantScale(u, at[0]), wantScale(v, at[1]), wantScale(x.N, x.D)), codeOK
}

// wantLeft calculates with big numbers of 53 bits, each step of which rounds once.
func wantLeft(a, b, c place) bool {
	wide := func() *big.Float { return new(big.Float).SetPrec(53) }
	less := func(p, q float32) *big.Float { return wide().Sub(big.NewFloat(float64(p)), big.NewFloat(float64(q))) }
	one := wide().Mul(less(b[0], a[0]), less(c[1], a[1]))
	other := wide().Mul(less(b[1], a[1]), less(c[0], a[0]))
	return wide().Sub(one, other).Sign() > 0
}

// hullOf is HullOf of plain places: the lower part is built on a stack of indices, and so is the upper one behind it.
func hullOf(list []place) []int64 {
	var order []int
	for i, at := range list {
		again := false
		for _, other := range list[:i] {
			again = again || other[0] == at[0] && other[1] == at[1]
		}
		if !again {
			order = append(order, i)
		}
	}
	sort.Slice(order, func(i, k int) bool {
		p, q := list[order[i]], list[order[k]]
		return p[0] < q[0] || p[0] == q[0] && p[1] < q[1]
	})
	if len(order) == 1 {
		return []int64{int64(order[0])}
	}
	var stack []int64
	add := func(bottom, i int) {
		for len(stack) >= bottom+2 && !wantLeft(list[stack[len(stack)-2]], list[stack[len(stack)-1]], list[i]) {
			stack = stack[:len(stack)-1]
		}
		stack = append(stack, int64(i))
	}
	for _, i := range order {
		add(0, i)
	}
	bottom := len(stack) - 1
	for k := len(order) - 2; k >= 0; k-- {
		add(bottom, order[k])
	}
	return stack[:len(stack)-1]
}

func wantHull(list []place) ([]int64, int64) {
	if len(list) < 1 || len(list) > 64 || !plainPlace(list...) {
		return nil, codeRange
	}
	return hullOf(list), codeOK
}

func loopArea(list []place) float32 {
	total := float32(0)
	for i := range list {
		a, b := list[i], list[0]
		if i+1 < len(list) {
			b = list[i+1]
		}
		total = difference(sum(total, product(a[0], b[1])), product(a[1], b[0]))
	}
	return product(total, 0.5)
}

func wantLoopArea(list []place) (float32, int64) {
	if len(list) > 64 || !plainPlace(list...) {
		return 0, codeRange
	}
	return loopArea(list), codeOK
}

func wantShadowOutline(l impl.Lamp, x impl.Plane, s impl.Solid) ([]place, int64) {
	if !wantValidLamp(l) || invalid(x) || !wantValid(s) {
		return nil, codeInvalid
	}
	var places []place
	for _, corner := range s.Corners {
		p, code := shadowOf(l, x, corner)
		if code != codeOK {
			return nil, code
		}
		places = append(places, placeOn(x, p))
	}
	if !plainPlace(places...) {
		return nil, codeState
	}
	var outline []place
	for _, i := range hullOf(places) {
		outline = append(outline, places[i])
	}
	return outline, codeOK
}

func wantShadowArea(l impl.Lamp, x impl.Plane, s impl.Solid) (float32, int64) {
	outline, code := wantShadowOutline(l, x, s)
	if code != codeOK {
		return 0, code
	}
	return loopArea(outline), codeOK
}

// wantHides reports whether a convex solid hides a point: it finds all shares first.
func wantHides(l impl.Lamp, s impl.Solid, p impl.Point) bool {
	w := wantWay(l, p)
	q := numberwise(sum, p, wantScale(w, 0.00390625))
	way := wantLess(numberwise(sum, q, w), q)
	var in, out []float32
	for face := range s.Faces {
		x, _ := wantFacePlane(s, face)
		e := wantDot(x.N, way)
		t := quotient(difference(x.D, wantDot(x.N, q)), e)
		switch {
		case e < 0:
			in = append(in, t)
		case e > 0:
			out = append(out, t)
		case sideOf(x, q) > 0:
			return false
		}
	}
	if len(in) == 0 {
		return false
	}
	share := -infinite
	for _, t := range in {
		share = max(share, t)
	}
	for _, t := range out {
		if share > t {
			return false
		}
	}
	return share >= 0 && (l.Sun || share < 1)
}

// codeOfRoom is the code that all functions of lamps, lists of solids and points have first;
// there tells whether what else they are asked for, a face or parts, is there.
func codeOfRoom(lamps []impl.Lamp, list []impl.Solid, there bool, points ...impl.Point) int64 {
	for _, l := range lamps {
		if !wantValidLamp(l) {
			return codeInvalid
		}
	}
	for _, p := range points {
		if !plain(p[:]...) {
			return codeInvalid
		}
	}
	for _, s := range list {
		if !wantValid(s) {
			return codeInvalid
		}
	}
	if len(lamps) > 6 || len(list) > 6 || !there {
		return codeRange
	}
	if !allWantConvex(list) {
		return codeState
	}
	return codeOK
}

func allWantConvex(list []impl.Solid) bool {
	for _, s := range list {
		if !wantConvex(s) {
			return false
		}
	}
	return true
}

// firstHiding is the index of the first solid that hides a point, or -1.
func firstHiding(l impl.Lamp, list []impl.Solid, p impl.Point) int64 {
	for i, s := range list {
		if wantHides(l, s, p) {
			return int64(i)
		}
	}
	return -1
}

func wantIsLit(l impl.Lamp, list []impl.Solid, p impl.Point) (bool, int64) {
	if code := codeOfRoom([]impl.Lamp{l}, list, true, p); code != codeOK {
		return false, code
	}
	return firstHiding(l, list, p) < 0, codeOK
}

func wantWhatHides(l impl.Lamp, list []impl.Solid, p impl.Point) (int64, int64) {
	if code := codeOfRoom([]impl.Lamp{l}, list, true, p); code != codeOK {
		return 0, code
	}
	if i := firstHiding(l, list, p); i >= 0 {
		return i, codeOK
	}
	return 0, codeNotFound
}

// lightOf is LightAt behind the errors of rooms.
func lightOf(lamps []impl.Lamp, list []impl.Solid, p, n impl.Point) (float32, int64) {
	unit, code := wantUnitOfAny(n)
	if code != codeOK {
		return 0, code
	}
	total := float32(0)
	for _, l := range lamps {
		w := wantWay(l, p)
		f := wantDot(w, w)
		if f < limit && !l.Sun {
			return 0, codeState
		}
		d := quotient(wantDot(unit, w), root(f))
		light := product(l.Strong, d)
		if !l.Sun {
			light = quotient(light, f)
		}
		if d > 0 && firstHiding(l, list, p) < 0 {
			total = sum(total, light)
		}
	}
	return total, codeOK
}

func wantLight(lamps []impl.Lamp, list []impl.Solid, p, n impl.Point) (float32, int64) {
	if code := codeOfRoom(lamps, list, true, p, n); code != codeOK {
		return 0, code
	}
	return lightOf(lamps, list, p, n)
}

func wantFaceLight(lamps []impl.Lamp, list []impl.Solid, solid, face int64) (float32, int64) {
	there := solid >= 0 && solid < int64(len(list)) && face >= 0 && face < int64(len(list[solid].Faces))
	if code := codeOfRoom(lamps, list, there); code != codeOK {
		return 0, code
	}
	s := list[solid]
	var corners []impl.Point
	for _, i := range s.Faces[face] {
		corners = append(corners, s.Corners[i])
	}
	middle := numberwise(quotient, sums(corners[0], corners[1:]...), everywhere(float32(len(corners))))
	x, _ := wantFacePlane(s, int(face))
	return lightOf(lamps, list, middle, x.N)
}

// partsOf returns the points of a triangle that are asked, if there are 1 to 16 parts.
func partsOf(a, b, c impl.Point, parts int64) []impl.Point {
	var points []impl.Point
	for i := int64(0); i <= parts-1; i++ {
		for j := int64(0); j <= parts-1-i; j++ {
			x := quotient(sum(float32(i), 0.25), float32(parts))
			y := quotient(sum(float32(j), 0.25), float32(parts))
			points = append(points, sums(a, wantScale(wantLess(b, a), x), wantScale(wantLess(c, a), y)))
		}
	}
	return points
}

func wantLitShare(l impl.Lamp, list []impl.Solid, a, b, c impl.Point, parts int64) (float32, int64) {
	if code := codeOfRoom([]impl.Lamp{l}, list, parts >= 1 && parts <= 16, a, b, c); code != codeOK {
		return 0, code
	}
	points := partsOf(a, b, c, parts)
	lit := 0
	for _, p := range points {
		if firstHiding(l, list, p) < 0 {
			lit++
		}
	}
	return quotient(float32(lit), float32(len(points))), codeOK
}

func wantBrightest(lamps []impl.Lamp, list []impl.Solid, a, b, c, n impl.Point, parts int64) (impl.Point, float32, int64) {
	if code := codeOfRoom(lamps, list, parts >= 1 && parts <= 16, a, b, c, n); code != codeOK {
		return impl.Point{}, 0, code
	}
	points := partsOf(a, b, c, parts)
	lights := make([]float32, len(points))
	best := 0
	for i, p := range points {
		light, code := lightOf(lamps, list, p, n)
		if code != codeOK {
			return impl.Point{}, 0, code
		}
		lights[i] = light
		if light > lights[best] {
			best = i
		}
	}
	return points[best], lights[best], codeOK
}

// lampText writes a lamp that need not be valid.
func lampText(l impl.Lamp) string {
	word := map[bool]string{false: "lamp", true: "sun"}[l.Sun]
	for _, a := range []float32{l.At[0], l.At[1], l.At[2], l.Strong} {
		word += " " + impl.NumberText(a)
	}
	return word
}
