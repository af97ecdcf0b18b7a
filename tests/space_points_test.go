package tests

import (
	"testing"

	"loop.example/g01249/impl"
)

// These numbers make a difference if a product is not rounded before it is added to something:
// the square of the first one is the second one, and 2 to the power -24 more.
const (
	nearOne       = 1 + 0x1p-12
	squareNearOne = 1 + 0x1p-11
)

func TestExampleOfSpace(t *testing.T) {
	same(t, "CrossOf", all(impl.CrossOf(impl.Point{1, 0, 0}, impl.Point{0, 1, 0})), all(impl.Point{0, 0, 1}))
	x, code := impl.PlaneThrough(impl.Point{0, 0, 1}, impl.Point{1, 0, 1}, impl.Point{0, 1, 1})
	same(t, "PlaneThrough", two(x, code), two(impl.Plane{N: impl.Point{0, 0, 1}, D: 1}, int64(impl.OK)))
	p := impl.Point{5, 5, 3}
	same(t, "SideOf", two(impl.SideOf(x, p)), two(float32(2), int64(impl.OK)))
	same(t, "FootOf", two(impl.FootOf(x, p)), two(impl.Point{5, 5, 1}, int64(impl.OK)))
	same(t, "MirrorPoint", two(impl.MirrorPoint(x, p)), two(impl.Point{5, 5, -1}, int64(impl.OK)))
	same(t, "MeetLine", three(impl.MeetLine(x, impl.Point{}, impl.Point{0, 0, 4})),
		three(impl.Point{0, 0, 1}, float32(0.25), int64(impl.OK)))
	q, code := impl.TurnAround(impl.Point{0, 0, 1}, 0.25, impl.Point{1, 0, 0})
	if code != impl.OK || impl.DistanceBetween(q, impl.Point{0, 1, 0}) > 0.000001 {
		t.Errorf("TurnAround: got %s", row(q, code))
	}
}

func TestSamePoint(t *testing.T) {
	p := impl.Point{1, nan, 0}
	if !impl.SamePoint(p, p) || !impl.SamePoint(impl.Point{infinite, -1, minusZero}, impl.Point{infinite, -1, minusZero}) {
		t.Error("SamePoint of a point and itself: got false")
	}
	for i := range 3 {
		for _, a := range []float32{minusZero, tiniest, nan, infinite} {
			q := impl.Point{}
			q[i] = a
			if impl.SamePoint(q, impl.Point{}) {
				t.Errorf("SamePoint %s and the point of zeros: got true", row(q))
			}
		}
	}
}

func TestOrdinaryPoints(t *testing.T) {
	p, q := impl.Point{1, -2, 3}, impl.Point{10, 20, -30}
	same(t, "AddPoints", all(impl.AddPoints(p, q)), all(impl.Point{11, 18, -27}))
	same(t, "SubPoints", all(impl.SubPoints(p, q)), all(impl.Point{-9, -22, 33}))
	same(t, "ScalePoint", all(impl.ScalePoint(p, -2)), all(impl.Point{-2, 4, -6}))
	same(t, "DotOf", all(impl.DotOf(p, q)), all(float32(10-40-90)))
	same(t, "CrossOf", all(impl.CrossOf(p, q)), all(impl.Point{60 - 60, 30 + 30, 20 + 20}))
	same(t, "LengthOf", all(impl.LengthOf(impl.Point{2, -3, 6})), all(float32(7)))
	same(t, "DistanceBetween", all(impl.DistanceBetween(impl.Point{1, 1, 1}, impl.Point{3, -2, 7})), all(float32(7)))
	same(t, "BetweenPoints", all(impl.BetweenPoints(impl.Point{0, 4, 8}, impl.Point{8, 4, 0}, 0.25)), all(impl.Point{2, 4, 6}))
	same(t, "BetweenPoints behind", all(impl.BetweenPoints(impl.Point{0, 4, 8}, impl.Point{8, 4, 0}, 2)), all(impl.Point{16, 4, -8}))
}

func TestProductsAreRoundedFirst(t *testing.T) {
	same(t, "DotOf", all(impl.DotOf(impl.Point{nearOne, -squareNearOne, 0}, impl.Point{nearOne, 1, 0})), all(float32(0)))
	same(t, "DotOf backwards", all(impl.DotOf(impl.Point{-squareNearOne, 0, nearOne}, impl.Point{1, 0, nearOne})), all(float32(0)))
	cross := impl.CrossOf(impl.Point{0, nearOne, squareNearOne}, impl.Point{0, 1, nearOne})
	same(t, "CrossOf", all(cross[0]), all(float32(0)))
	between := impl.BetweenPoints(impl.Point{-squareNearOne, 0, 0}, impl.Point{nearOne - squareNearOne, 0, 0}, nearOne)
	same(t, "BetweenPoints", all(between[0]), all(float32(0)))
}

func TestSumsAreMadeFromLeftToRight(t *testing.T) {
	ones := impl.Point{1, 1, 1}
	same(t, "DotOf", all(impl.DotOf(impl.Point{1e8, -1e8, 1}, ones)), all(float32(1)))
	same(t, "DotOf backwards", all(impl.DotOf(impl.Point{1, -1e8, 1e8}, ones)), all(float32(0)))
	same(t, "DotOf of -0", all(impl.DotOf(impl.Point{minusZero, minusZero, minusZero}, ones)), all(minusZero))
	same(t, "DotOf of -0 and 0", all(impl.DotOf(impl.Point{minusZero, 0, minusZero}, ones)), all(float32(0)))
}

func TestPointsThatAreNotPlain(t *testing.T) {
	same(t, "AddPoints", all(impl.AddPoints(impl.Point{greatest, infinite, nan}, impl.Point{greatest, -infinite, 1})),
		all(impl.Point{infinite, nan, nan}))
	same(t, "SubPoints", all(impl.SubPoints(impl.Point{minusZero, 0, infinite}, impl.Point{0, 0, infinite})),
		all(impl.Point{minusZero, 0, nan}))
	same(t, "ScalePoint", all(impl.ScalePoint(impl.Point{tiniest, -tiniest, infinite}, 0.5)),
		all(impl.Point{0, minusZero, infinite}))
	same(t, "ScalePoint by 0", all(impl.ScalePoint(impl.Point{infinite, nan, -1}, 0)), all(impl.Point{nan, nan, minusZero}))
	same(t, "LengthOf", all(impl.LengthOf(impl.Point{greatest, 0, 0})), all(infinite))
	same(t, "LengthOf NaN", all(impl.LengthOf(impl.Point{nan, infinite, 0})), all(nan))
	same(t, "LengthOf small", all(impl.LengthOf(impl.Point{0x1p-74, 0, 0})), all(float32(0x1p-74)))
	same(t, "LengthOf too small", all(impl.LengthOf(impl.Point{0x1p-76, 0, 0})), all(float32(0)))
	same(t, "DistanceBetween", all(impl.DistanceBetween(impl.Point{infinite, 0, 0}, impl.Point{infinite, 0, 0})), all(nan))
	same(t, "BetweenPoints", all(impl.BetweenPoints(impl.Point{0, 1, 2}, impl.Point{1, 1, 2}, infinite)), all(impl.Point{infinite, nan, nan}))
}

func TestUnitOf(t *testing.T) {
	ok, state, bad := int64(impl.OK), int64(impl.ErrState), int64(impl.ErrInvalid)
	cases := []struct {
		p, want impl.Point
		code    int64
	}{
		{impl.Point{0, 3, 4}, impl.Point{0, 0.6, 0.8}, ok},
		{impl.Point{minusZero, 0, -5}, impl.Point{minusZero, 0, -1}, ok},
		{impl.Point{impl.MaxSize, 0, 0}, impl.Point{1, 0, 0}, ok},
		{impl.Point{limit, 0, 0}, impl.Point{1, 0, 0}, ok},
		{impl.Point{0, -limit, 0}, impl.Point{0, -1, 0}, ok},
		{impl.Point{below(limit), 0, 0}, impl.Point{}, state},
		{impl.Point{0, 0, -below(limit)}, impl.Point{}, state},
		{impl.Point{tiniest, 0, 0}, impl.Point{}, state},
		{impl.Point{}, impl.Point{}, state},
		{impl.Point{above(impl.MaxSize), 0, 0}, impl.Point{}, bad},
		{impl.Point{0, nan, 0}, impl.Point{}, bad},
		{impl.Point{0, 0, -infinite}, impl.Point{}, bad},
	}
	for _, c := range cases {
		same(t, "UnitOf "+row(c.p), two(impl.UnitOf(c.p)), two(c.want, c.code))
	}
}
