package tests

import (
	"math"
	"slices"
	"testing"

	"loop.example/g01249/impl"
)

func TestBasisOf(t *testing.T) {
	const third, half = 0.57735026, 0.70710677
	for _, c := range []struct {
		n impl.Point
		// k is the index of the number that is least in size.
		k int
	}{
		{impl.Point{0.1, 0.7, 0.7}, 0}, {impl.Point{0.7, 0.1, 0.7}, 1}, {impl.Point{0.7, 0.7, 0.1}, 2},
		// Sizes are compared, not numbers.
		{impl.Point{0.1, -0.7, 0.7}, 0}, {impl.Point{0.7, -0.1, -0.7}, 1}, {impl.Point{-0.7, -0.7, 0.1}, 2}, {impl.Point{-0.9, -0.3, 0.2}, 2},
		// Two of them are zeros: the first one counts, whatever its sign is.
		{impl.Point{1, 0, 0}, 1}, {impl.Point{0, 1, 0}, 0}, {impl.Point{0, 0, 1}, 0},
		{impl.Point{-1, 0, minusZero}, 1}, {impl.Point{-1, minusZero, 0}, 1}, {impl.Point{0, -1, minusZero}, 0}, {impl.Point{minusZero, 0, -1}, 0},
		// Two of them have the same size.
		{impl.Point{half, half, 0}, 2}, {impl.Point{0, half, half}, 0}, {impl.Point{half, 0, -half}, 1},
		{impl.Point{0.5, 0.5, half}, 0}, {impl.Point{0.5, -0.5, half}, 0}, {impl.Point{-0.5, 0.5, half}, 0},
		{impl.Point{half, 0.5, 0.5}, 1}, {impl.Point{half, 0.5, -0.5}, 1}, {impl.Point{half, -0.5, 0.5}, 1},
		{impl.Point{0.5, half, 0.5}, 0}, {impl.Point{-0.5, half, 0.5}, 0}, {impl.Point{0.5, half, -0.5}, 0},
		// All of them have, or the second or the last one is only just less.
		{impl.Point{third, third, third}, 0}, {impl.Point{-third, third, -third}, 0},
		{impl.Point{third, below(third), third}, 1}, {impl.Point{third, third, below(third)}, 2}, {impl.Point{below(third), third, below(third)}, 0},
		{impl.Point{third, -below(third), below(third)}, 1}, {impl.Point{0, 1, tiniest}, 0}, {impl.Point{tiniest, 1, minusZero}, 2},
	} {
		x, code := wantPlane(impl.Point{}, c.n)
		if code != codeOK || wantLength(c.n) > 0.999 && wantLength(c.n) < 1.001 {
			x.N = c.n
		}
		u, v, code := impl.BasisOf(x)
		h := impl.Point{}
		h[c.k] = 1
		want, _ := wantUnitOfAny(wantCross(h, x.N))
		same(t, "BasisOf "+row(x), all(u, v, code), all(want, wantCross(x.N, want), codeOK))
		if u[c.k] != 0 {
			t.Errorf("BasisOf %s: got %s, which is not square to the axis %d", row(x), row(u), c.k)
		}
	}
	// The basis depends on N alone, and not on D.
	u, v, code := impl.BasisOf(level(impl.MaxSize))
	same(t, "BasisOf a level", all(u == impl.Point{0, -1, 0}, v == impl.Point{1, 0, 0}, code), all(true, true, codeOK))
	u, v, code = impl.BasisOf(beneath(1))
	same(t, "BasisOf it from beneath", all(u == impl.Point{0, 1, 0}, v == impl.Point{1, 0, 0}, code), all(true, true, codeOK))
	// u is a unit also where N is a little too long or too short; v is as long as N.
	u, v, _ = impl.BasisOf(impl.Plane{N: impl.Point{0, 0, 0.999}})
	same(t, "BasisOf a short N", all(u == impl.Point{0, -1, 0}, v == impl.Point{0.999, 0, 0}), all(true, true))
}

func TestPlaceOf(t *testing.T) {
	for _, c := range []struct {
		x  impl.Plane
		p  impl.Point
		at place
	}{
		{ground, impl.Point{3, 4, 0}, place{-4, 3}},
		{level(2), impl.Point{3, 4, 2}, place{-4, 3}},
		// Points that are not on the plane have the places of their feet.
		{level(2), impl.Point{3, 4, 7}, place{-4, 3}},
		{beneath(2), impl.Point{3, 4, 2}, place{4, 3}},
		{impl.Plane{N: impl.Point{1, 0, 0}, D: 5}, impl.Point{5, 3, 4}, place{-4, 3}},
		{impl.Plane{N: impl.Point{0, 1, 0}, D: 5}, impl.Point{3, 5, 4}, place{4, 3}},
		{ground, impl.Point{impl.MaxSize, -impl.MaxSize, 0}, place{impl.MaxSize, impl.MaxSize}},
	} {
		at, code := impl.PlaceOf(c.x, c.p)
		if at != c.at || code != impl.OK {
			t.Errorf("PlaceOf %s: got %s, want %s", row(c.x, c.p), row(at, code), row(c.at))
		}
	}
	// The place need not be plain.
	x, _ := impl.PlaneAt(impl.Point{}, impl.Point{1, -1, 0})
	at, code := impl.PlaceOf(x, impl.Point{impl.MaxSize, impl.MaxSize, 0})
	same(t, "a far place", all(plainPlace(at), code), all(false, codeOK))
}

func TestFromPlane(t *testing.T) {
	for _, c := range []struct {
		x  impl.Plane
		at place
		p  impl.Point
	}{
		{ground, place{-4, 3}, impl.Point{3, 4, 0}},
		{level(2), place{-4, 3}, impl.Point{3, 4, 2}},
		{beneath(2), place{4, 3}, impl.Point{3, 4, 2}},
		{impl.Plane{N: impl.Point{1, 0, 0}, D: 5}, place{-4, 3}, impl.Point{5, 3, 4}},
		{level(impl.MaxSize), place{impl.MaxSize, -impl.MaxSize}, impl.Point{-impl.MaxSize, -impl.MaxSize, impl.MaxSize}},
	} {
		p, code := impl.FromPlane(c.x, c.at)
		if p != c.p || code != impl.OK {
			t.Errorf("FromPlane %s: got %s, want %s", row(c.x, c.at), row(p, code), row(c.p))
		}
	}
	for _, a := range []float32{above(impl.MaxSize), below(-impl.MaxSize), infinite, -infinite, nan} {
		same(t, "FromPlane "+row(a), all(impl.FromPlane(ground, place{a, 0})), all(impl.Point{}, codeRange))
		same(t, "FromPlane "+row(a), all(impl.FromPlane(ground, place{0, a})), all(impl.Point{}, codeRange))
	}
	// The point need not be valid.
	x, _ := impl.PlaneAt(impl.Point{}, impl.Point{1, -1, 0})
	p, code := impl.FromPlane(x, place{impl.MaxSize, impl.MaxSize})
	q, otherCode := impl.FromPlane(x, place{-impl.MaxSize, impl.MaxSize})
	same(t, "far points", all(impl.ValidPoint(p) && impl.ValidPoint(q), code, otherCode), all(true, codeOK, codeOK))
	x, _ = impl.PlaneAt(impl.Point{impl.MaxSize, 0, 0}, impl.Point{1, 0, 1})
	p, code = impl.FromPlane(x, place{impl.MaxSize, impl.MaxSize})
	q, otherCode = impl.FromPlane(x, place{-impl.MaxSize, -impl.MaxSize})
	same(t, "farther points", all(impl.ValidPoint(p) && impl.ValidPoint(q), code, otherCode), all(false, codeOK, codeOK))
}

// places are some on a circle, to the left.
func places(n int) []place {
	list := make([]place, n)
	for i := range list {
		sine, cosine := math.Sincos(2 * math.Pi * (float64(i) + 0.5) / float64(n))
		list[i] = place{float32(-cosine), float32(-sine)}
	}
	return list
}

func TestHullOf(t *testing.T) {
	for name, c := range map[string]struct {
		list []place
		want []int64
	}{
		"square":     {[]place{{0, 0}, {2, 0}, {2, 2}, {0, 2}}, []int64{0, 1, 2, 3}},
		"to right":   {[]place{{0, 2}, {2, 2}, {2, 0}, {0, 0}}, []int64{3, 2, 1, 0}},
		"crosswise":  {[]place{{2, 2}, {0, 0}, {2, 0}, {0, 2}}, []int64{1, 2, 0, 3}},
		"triangle":   {[]place{{5, 1}, {1, 5}, {0, 0}}, []int64{2, 0, 1}},
		"one inside": {[]place{{1, 1}, {0, 0}, {2, 0}, {2, 2}, {0, 2}}, []int64{1, 2, 3, 4}},
		// Places on a side are no corners, also on those at which the loop begins and turns round.
		"on sides":     {[]place{{1, 0}, {2, 1}, {1, 2}, {0, 1}, {0, 0}, {2, 0}, {2, 2}, {0, 2}}, []int64{4, 5, 6, 7}},
		"not quite":    {[]place{{1, -tiniest}, {0, 0}, {2, 0}, {2, 2}, {0, 2}}, []int64{1, 0, 2, 3, 4}},
		"a bit inside": {[]place{{1, tiniest}, {0, 0}, {2, 0}, {2, 2}, {0, 2}}, []int64{1, 2, 3, 4}},
		// It begins with the least first number, then with the least second one, then with the first place.
		"least first":  {[]place{{0, 0}, {1, -1}, {1, 1}, {-1, 0}}, []int64{3, 1, 2}},
		"least second": {[]place{{0, 5}, {0, -5}, {1, 0}}, []int64{1, 2, 0}},
		"first one":    {[]place{{2, 0}, {0, 0}, {0, 2}, {0, 0}, {0, 2}, {2, 0}}, []int64{1, 0, 2}},
		"all twice":    {[]place{{0, 0}, {0, 0}, {2, 0}, {2, 0}, {2, 2}, {2, 2}, {0, 2}, {0, 2}}, []int64{0, 2, 4, 6}},
		"twice inside": {[]place{{0, 0}, {1, 1}, {3, 0}, {1, 1}, {0, 3}}, []int64{0, 2, 4}},
		// 0 and -0 are equal: they are in no order, and one place.
		"-0 first":   {[]place{{minusZero, 1}, {0, 0}, {1, 0}, {1, 1}}, []int64{1, 2, 3, 0}},
		"-0 second":  {[]place{{0, 1}, {minusZero, 0}, {1, 0}, {1, 1}}, []int64{1, 2, 3, 0}},
		"-0 twice":   {[]place{{0, 0}, {minusZero, minusZero}, {1, 0}, {0, 1}}, []int64{0, 2, 3}},
		"-0 before":  {[]place{{minusZero, minusZero}, {0, 0}, {1, 0}, {0, 1}}, []int64{0, 2, 3}},
		"-0 alone":   {[]place{{0, minusZero}, {minusZero, 0}, {0, 0}}, []int64{0}},
		"-0 at turn": {[]place{{0, 5}, {7, 0}, {7, minusZero}, {0, -5}}, []int64{3, 1, 0}},
		// One place, or several ones that are all the same; two places.
		"one":         {[]place{{7, -3}}, []int64{0}},
		"the same":    {[]place{{7, -3}, {7, -3}, {7, -3}}, []int64{0}},
		"two":         {[]place{{7, -3}, {2, 9}}, []int64{1, 0}},
		"two, twice":  {[]place{{7, -3}, {2, 9}, {7, -3}, {2, 9}}, []int64{1, 0}},
		"upright two": {[]place{{7, 5}, {7, -5}}, []int64{1, 0}},
		// Places on a line: only both ends are left.
		"on a line":     {[]place{{1, 1}, {0, 0}, {3, 3}, {2, 2}}, []int64{1, 2}},
		"upright line":  {[]place{{0, 1}, {0, 0}, {0, 3}, {0, 2}}, []int64{1, 2}},
		"level line":    {[]place{{1, 0}, {0, 0}, {3, 0}, {2, 0}, {3, 0}, {0, 0}}, []int64{1, 2}},
		"falling line":  {[]place{{1, -2}, {0, 0}, {3, -6}, {2, -4}}, []int64{1, 2}},
		"far on a line": {[]place{{-impl.MaxSize, -impl.MaxSize}, {0, 0}, {impl.MaxSize, impl.MaxSize}}, []int64{0, 2}},
		// Places that are not far from a line are told apart by wide numbers.
		"nearly a line":   {[]place{{0, 0}, {impl.MaxSize, below(impl.MaxSize)}, {0.5, 0.5}}, []int64{0, 1, 2}},
		"nearly, beneath": {[]place{{0, 0}, {impl.MaxSize, impl.MaxSize}, {0.5, below(0.5)}}, []int64{0, 2, 1}},
		"far and near":    {[]place{{0, 0}, {tiniest, tiniest}, {tiniest, 0}, {0, tiniest}}, []int64{0, 2, 1, 3}},
		"subnormal line":  {[]place{{0, 0}, {tiniest, tiniest}, {2 * tiniest, 2 * tiniest}}, []int64{0, 2}},
		"small and large": {[]place{{impl.MaxSize, 0}, {impl.MaxSize, tiniest}, {0, 0}}, []int64{2, 0, 1}},
		// Several are taken away before one is added.
		"taken away":   {[]place{{0, 0}, {1, -1}, {2, -1.5}, {3, -1.75}, {4, -9}, {5, 0}}, []int64{0, 4, 5}},
		"taken, above": {[]place{{0, 0}, {1, 1}, {2, 1.5}, {3, 1.75}, {4, 9}, {5, 0}}, []int64{0, 5, 4}},
	} {
		same(t, name, all(impl.HullOf(c.list)), all(c.want, codeOK))
	}
}

func TestHullOfHowManyPlaces(t *testing.T) {
	none := all([]int64{}, codeRange)
	same(t, "nil", all(impl.HullOf(nil)), none)
	same(t, "none", all(impl.HullOf([]place{})), none)
	for _, n := range []int{3, 63, 64} {
		got, code := impl.HullOf(places(n))
		sorted := slices.Sorted(slices.Values(got))
		same(t, "all are corners", all(int64(len(slices.Compact(sorted))), got[0], got[1], code), all(int64(n), int64(0), int64(1), codeOK))
	}
	for _, n := range []int{65, 66, 128, 1000, 500000} {
		same(t, "too many", all(impl.HullOf(places(n))), none)
		same(t, "too many that are the same", all(impl.HullOf(make([]place, n))), none)
	}
	same(t, "64 that are the same", all(impl.HullOf(make([]place, 64))), all([]int64{0}, codeOK))
	for _, n := range []int{1, 2, 5, 64} {
		for _, a := range []float32{above(impl.MaxSize), below(-impl.MaxSize), infinite, -infinite, nan} {
			for k := range 2 {
				for _, i := range []int{0, n - 1} {
					list := places(n)
					list[i][k] = a
					same(t, "not plain "+row(list), all(impl.HullOf(list)), none)
					same(t, "not plain "+row(list), all(impl.AreaOfLoop(list)), all(float32(0), codeRange))
				}
			}
		}
	}
	// All numbers are just plain.
	far := []place{{impl.MaxSize, impl.MaxSize}, {-impl.MaxSize, impl.MaxSize}, {-impl.MaxSize, -impl.MaxSize}, {impl.MaxSize, -impl.MaxSize}}
	same(t, "just plain", all(impl.HullOf(far)), all([]int64{2, 3, 0, 1}, codeOK))
}

func TestAreaOfLoop(t *testing.T) {
	for name, c := range map[string]struct {
		list []place
		want float32
	}{
		"nil":            {nil, 0},
		"none":           {[]place{}, 0},
		"one":            {[]place{{7, -3}}, 0},
		"two":            {[]place{{7, -3}, {2, 9}}, 0},
		"square":         {[]place{{0, 0}, {2, 0}, {2, 2}, {0, 2}}, 4},
		"to the right":   {[]place{{0, 0}, {0, 2}, {2, 2}, {2, 0}}, -4},
		"triangle":       {[]place{{1, 1}, {4, 1}, {1, 3}}, 3},
		"crossing":       {[]place{{0, 0}, {2, 2}, {2, 0}, {0, 2}}, 0},
		"round twice":    {[]place{{0, 0}, {2, 0}, {2, 2}, {0, 2}, {0, 0}, {2, 0}, {2, 2}, {0, 2}}, 8},
		"not convex":     {[]place{{0, 0}, {2, 0}, {2, 1}, {1, 1}, {1, 2}, {0, 2}}, 3},
		"far":            {[]place{{0, 0}, {impl.MaxSize, 0}, {0, impl.MaxSize}}, 5e11},
		"subnormal":      {[]place{{0, 0}, {tiniest, 0}, {0, impl.MaxSize}}, 500000 * tiniest},
		"half of little": {[]place{{0, 0}, {tiniest, 0}, {0, 1}}, 0},
		// The products are rounded, and added or taken away one after the other.
		"rounded":        {[]place{{nearOne, 0.5}, {2 * squareNearOne, nearOne}, {0, 0}}, 0},
		"one by one":     {[]place{{0x1p12, 0}, {1, 0x1p12}, {0x1p-12, 1}}, 0.5 * (0x1p24 - 1 - 0x1p12)},
		"taken away one": {[]place{{1, 1}, {0x1p-24, 1}, {1, 0}, {0, 0}}, 0.5 * (1 - 0x1p-24 - 1)},
	} {
		same(t, name, all(impl.AreaOfLoop(c.list)), all(c.want, codeOK))
	}
	same(t, "64 places", all(impl.AreaOfLoop(make([]place, 64))), all(float32(0), codeOK))
	area, code := impl.AreaOfLoop(places(64))
	same(t, "64 on a circle", all(area > 3.13 && area < math.Pi, code), all(true, codeOK))
	for _, n := range []int{65, 66, 128, 1000, 500000} {
		same(t, "too many", all(impl.AreaOfLoop(places(n))), all(float32(0), codeRange))
	}
}

func TestShadowOutline(t *testing.T) {
	// u is 0, -1, 0, and v is 1, 0, 0: the place of x, y, 0 is -y, x.
	same(t, "a lamp above", all(impl.ShadowOutline(exampleLamp, ground, exampleBox)),
		all([]place{{-2, -2}, {2, -2}, {2, 2}, {-2, 2}}, codeOK))
	same(t, "its area", all(impl.ShadowArea(exampleLamp, ground, exampleBox)), all(float32(16), codeOK))
	// A sun from aside: the shadows of both faces are a square each, one beside the other.
	same(t, "a sun", all(impl.ShadowOutline(exampleSun, ground, exampleBox)),
		all([]place{{0, -1}, {3, -1}, {3, 1}, {0, 1}}, codeOK))
	same(t, "its area", all(impl.ShadowArea(exampleSun, ground, exampleBox)), all(float32(6), codeOK))
	// Seen from beneath, the loop still goes to the left, on the other side.
	same(t, "beneath", all(impl.ShadowArea(exampleLamp, beneath(0), exampleBox)), all(float32(16), codeOK))
	// The plane is higher, and the solid touches it.
	same(t, "touching", all(impl.ShadowArea(exampleLamp, level(1), exampleBox)), all(float32(9), codeOK))
	// Solids need not be convex: there is a loop around their shadow.
	same(t, "uneven", all(impl.ShadowArea(sunAt(0, 0, 1), ground, moved(angle(), impl.Point{0, 0, 1}))), all(float32(3.5), codeOK))
	// Of a flat solid nothing but a line is left from aside.
	same(t, "a line", all(impl.ShadowOutline(sunAt(5, 0, 0), impl.Plane{N: impl.Point{1, 0, 0}, D: -1}, flat(3))),
		all([]place{{-3, 0}, {-3, 1}}, codeOK))
	same(t, "no area", all(impl.ShadowArea(sunAt(5, 0, 0), impl.Plane{N: impl.Point{1, 0, 0}, D: -1}, flat(3))), all(float32(0), codeOK))
	// All 24 corners count.
	outline, code := impl.ShadowOutline(sunAt(2, 1, 2), level(-1), octagons())
	want, _ := wantShadowOutline(sunAt(2, 1, 2), level(-1), octagons())
	same(t, "many corners", all(outline, code, len(want) >= 8), all(want, codeOK, true))
}

func TestShadowOutlineErrors(t *testing.T) {
	check := func(name string, l impl.Lamp, x impl.Plane, s impl.Solid, code int64) {
		t.Helper()
		same(t, name, all(impl.ShadowOutline(l, x, s)), all([]place{}, code))
		same(t, name, all(impl.ShadowArea(l, x, s)), all(float32(0), code))
	}
	// Corners at the heights 0.5, 1, 2 and 4.5: the first one with an error tells it.
	check("the second corner", lampAt(9, 9, 1), ground, slanted(), codeState)
	check("the third corner", lampAt(9, 9, 1.5), ground, slanted(), codeNotFound)
	check("the third corner", lampAt(9, 9, 2), ground, slanted(), codeState)
	check("the last corner", lampAt(9, 9, 3), ground, slanted(), codeNotFound)
	check("the last corner", lampAt(9, 9, 4.5), ground, slanted(), codeState)
	check("the first corner", lampAt(9, 9, 9), level(0.75), slanted(), codeNotFound)
	check("ahead of a later one", lampAt(9, 9, 1), level(0.75), slanted(), codeNotFound)
	check("along the sun", sunAt(1, 0, 0), ground, slanted(), codeState)
	check("below the sun", sunAt(1, 0, -1), ground, slanted(), codeNotFound)
	// A place is not plain; this is asked behind all shadows.
	low, high := lampAt(0, 0, 1+limit), lampAt(0, 0, 1+0x1p-18)
	far := box(impl.Point{1, 1, 0.5}, impl.Point{2, 2, 1})
	check("a far place", low, ground, far, codeState)
	outline, code := impl.ShadowOutline(high, ground, far)
	same(t, "not so far", all(int64(len(outline)), code), all(int64(6), codeOK))
	// The first corner has a place that is not plain, and the last one is above the lamp.
	tilted := altered(slanted(), func(s *impl.Solid) { s.Corners[0] = impl.Point{-9, -9, 1 - limit} })
	check("a far place, and another error", lampAt(0, 0, 1), ground, tilted, codeState)
	check("a far place, and another error", lampAt(2, 2, 1), ground, altered(tilted, func(s *impl.Solid) {
		s.Corners[1][2] = 0.875
	}), codeNotFound)
}

func TestPlacesOfShadowsThatAreNotValid(t *testing.T) {
	// The shadow itself is not a valid point, but its place is plain: that is what counts.
	x := level(impl.MaxSize)
	x.N[2] = 0.9995
	s := box(impl.Point{-1, -1, 0}, impl.Point{1, 1, 1})
	l := sunAt(0, 0, -1)
	shadow, code := impl.ShadowOfPoint(l, x, impl.Point{})
	same(t, "the shadow", all(impl.ValidPoint(shadow), code), all(false, codeOK))
	outline, code := impl.ShadowOutline(l, x, s)
	same(t, "the outline", all(int64(len(outline)), plainPlace(outline...), code), all(int64(4), true, codeOK))
}
