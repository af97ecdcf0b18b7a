package tests

import (
	"testing"

	"loop.example/g01249/impl"
)

// The points and planes that no function of planes takes.
var (
	badPoints = []impl.Point{{above(impl.MaxSize), 0, 0}, {0, nan, 0}, {0, 0, infinite}, {-infinite, 0, 0}}
	badPlanes = []impl.Plane{
		{},
		{N: impl.Point{0.5, 0, 0}},
		{N: impl.Point{0, 2, 0}},
		{N: impl.Point{0, 0, below(0.999)}},
		{N: impl.Point{0, 0, -above(1.001)}},
		{N: impl.Point{1, nan, 0}},
		{N: impl.Point{infinite, 0, 0}},
		{N: impl.Point{1, 0, 0}, D: above(impl.MaxSize)},
		{N: impl.Point{1, 0, 0}, D: nan},
		{N: impl.Point{1, 0, 0}, D: -infinite},
	}
	floor = impl.Plane{N: impl.Point{0, 0, 1}, D: 1}
)

func TestValidPlane(t *testing.T) {
	for _, x := range badPlanes {
		if impl.ValidPlane(x) {
			t.Errorf("ValidPlane %s: got true", row(x))
		}
	}
	planes := []impl.Plane{
		floor,
		{N: impl.Point{0, -0.6, 0.8}, D: -impl.MaxSize},
		{N: impl.Point{minusZero, 1, 0}, D: minusZero},
		{N: impl.Point{0.999, 0, 0}, D: impl.MaxSize},
		{N: impl.Point{0, 1.001, 0}},
	}
	for _, x := range planes {
		if !impl.ValidPlane(x) {
			t.Errorf("ValidPlane %s: got false", row(x))
		}
	}
}

func TestSamePlane(t *testing.T) {
	x := impl.Plane{N: impl.Point{nan, minusZero, 3}, D: nan}
	if !impl.SamePlane(x, x) {
		t.Error("SamePlane of a plane and itself: got false")
	}
	zero := impl.Plane{}
	others := []impl.Plane{{D: minusZero}, {N: impl.Point{minusZero, 0, 0}}, {N: impl.Point{0, 0, 1}}, {D: nan}, x}
	for _, y := range others {
		if impl.SamePlane(zero, y) || impl.SamePlane(y, zero) {
			t.Errorf("SamePlane of zeros and %s: got true", row(y))
		}
	}
}

func TestPlaneAt(t *testing.T) {
	ok, state := int64(impl.OK), int64(impl.ErrState)
	cases := []struct {
		p, n impl.Point
		want impl.Plane
		code int64
	}{
		{impl.Point{2, 0, 0}, impl.Point{4, 0, 0}, impl.Plane{N: impl.Point{1, 0, 0}, D: 2}, ok},
		{impl.Point{0, 5, 10}, impl.Point{0, 3, -4}, impl.Plane{N: impl.Point{0, 0.6, -0.8}, D: -5}, ok},
		{impl.Point{impl.MaxSize, 0, 0}, impl.Point{-limit, 0, 0}, impl.Plane{N: impl.Point{-1, 0, 0}, D: -impl.MaxSize}, ok},
		{impl.Point{}, impl.Point{below(limit), 0, 0}, impl.Plane{}, state},
		{impl.Point{}, impl.Point{}, impl.Plane{}, state},
		{impl.Point{impl.MaxSize, impl.MaxSize, 0}, impl.Point{1, 1, 0}, impl.Plane{}, state},
	}
	for _, c := range cases {
		same(t, "PlaneAt "+row(c.p, c.n), two(impl.PlaneAt(c.p, c.n)), two(c.want, c.code))
	}
	for _, p := range badPoints {
		same(t, "PlaneAt "+row(p), two(impl.PlaneAt(p, impl.Point{})), two(impl.Plane{}, int64(impl.ErrInvalid)))
		same(t, "PlaneAt along "+row(p), two(impl.PlaneAt(impl.Point{}, p)), two(impl.Plane{}, int64(impl.ErrInvalid)))
	}
}

func TestPlaneThrough(t *testing.T) {
	const most = impl.MaxSize
	ok, state := int64(impl.OK), int64(impl.ErrState)
	up := impl.Point{0, 0, 1}
	cases := []struct {
		a, b, c impl.Point
		want    impl.Plane
		code    int64
	}{
		{impl.Point{0, 0, 1}, impl.Point{0, 1, 1}, impl.Point{1, 0, 1}, impl.Plane{N: impl.Point{0, 0, -1}, D: -1}, ok},
		// The differences and their product need not be plain.
		{impl.Point{-most, -most, 7}, impl.Point{most, -most, 7}, impl.Point{-most, most, 7}, impl.Plane{N: up, D: 7}, ok},
		{impl.Point{}, impl.Point{0x1p-10, 0, 0}, impl.Point{0, 0x1p-10, 0}, impl.Plane{N: up}, ok},
		{impl.Point{}, impl.Point{0x1p-10, 0, 0}, impl.Point{0, below(0x1p-10), 0}, impl.Plane{}, state},
		{impl.Point{}, impl.Point{1, 1, 1}, impl.Point{2, 2, 2}, impl.Plane{}, state},
		{impl.Point{1, 2, 3}, impl.Point{1, 2, 3}, impl.Point{1, 2, 3}, impl.Plane{}, state},
		// D would not be plain.
		{impl.Point{most, most, 0}, impl.Point{0, most, most}, impl.Point{most, 0, most}, impl.Plane{}, state},
	}
	for _, c := range cases {
		same(t, "PlaneThrough "+row(c.a, c.b, c.c), two(impl.PlaneThrough(c.a, c.b, c.c)), two(c.want, c.code))
	}
	var p impl.Point
	for _, bad := range badPoints {
		want := two(impl.Plane{}, int64(impl.ErrInvalid))
		same(t, "PlaneThrough a "+row(bad), two(impl.PlaneThrough(bad, p, p)), want)
		same(t, "PlaneThrough b "+row(bad), two(impl.PlaneThrough(p, bad, p)), want)
		same(t, "PlaneThrough c "+row(bad), two(impl.PlaneThrough(p, p, bad)), want)
	}
}

func TestSides(t *testing.T) {
	ok := int64(impl.OK)
	slope := impl.Plane{N: impl.Point{0.6, 0, 0.8}, D: 5}
	same(t, "SideOf below", two(impl.SideOf(floor, impl.Point{9, 9, -2})), two(float32(-3), ok))
	same(t, "SideOf on", two(impl.SideOf(floor, impl.Point{-1, 8, 1})), two(float32(0), ok))
	same(t, "SideOf a slope", two(impl.SideOf(slope, impl.Point{10, 1, 10})), two(float32(9), ok))
	same(t, "FootOf on", two(impl.FootOf(floor, impl.Point{-1, minusZero, 1})), two(impl.Point{-1, minusZero, 1}, ok))
	// A foot and a mirrored point need not be valid points.
	edge := impl.Plane{N: impl.Point{1, 0, 0}, D: impl.MaxSize}
	same(t, "MirrorPoint far", two(impl.MirrorPoint(edge, impl.Point{-impl.MaxSize, 0, 0})), two(impl.Point{3 * impl.MaxSize, 0, 0}, ok))
	// The side is doubled before it is multiplied: half of the least number would be 0.
	leaning := impl.Plane{N: impl.Point{1, tiniest, 0}}
	same(t, "MirrorPoint of small numbers", two(impl.MirrorPoint(leaning, impl.Point{0.5, 0, 0})), two(impl.Point{-0.5, -tiniest, 0}, ok))
}

func TestSidesOfWhatIsNotValid(t *testing.T) {
	bad := int64(impl.ErrInvalid)
	check := func(x impl.Plane, p impl.Point) {
		t.Helper()
		same(t, "SideOf "+row(x, p), two(impl.SideOf(x, p)), two(float32(0), bad))
		same(t, "FootOf "+row(x, p), two(impl.FootOf(x, p)), two(impl.Point{}, bad))
		same(t, "MirrorPoint "+row(x, p), two(impl.MirrorPoint(x, p)), two(impl.Point{}, bad))
		same(t, "MeetLine a "+row(x, p), three(impl.MeetLine(x, p, impl.Point{})), three(impl.Point{}, float32(0), bad))
		same(t, "MeetLine b "+row(x, p), three(impl.MeetLine(x, impl.Point{}, p)), three(impl.Point{}, float32(0), bad))
	}
	for _, x := range badPlanes {
		check(x, impl.Point{1, 2, 3})
		same(t, "MeetPlanes "+row(x), three(impl.MeetPlanes(x, floor)), three(impl.Point{}, impl.Point{}, bad))
		same(t, "MeetPlanes with "+row(x), three(impl.MeetPlanes(floor, x)), three(impl.Point{}, impl.Point{}, bad))
	}
	for _, p := range badPoints {
		check(floor, p)
	}
}

func TestMeetLine(t *testing.T) {
	ok, state := int64(impl.OK), int64(impl.ErrState)
	cases := []struct {
		a, b  impl.Point
		at    impl.Point
		share float32
		code  int64
	}{
		{impl.Point{1, 2, 3}, impl.Point{1, 2, 5}, impl.Point{1, 2, 1}, -1, ok},
		{impl.Point{0, 4, 2}, impl.Point{8, 4, -2}, impl.Point{2, 4, 1}, 0.25, ok},
		{impl.Point{0, 0, 1}, impl.Point{3, 3, 9}, impl.Point{0, 0, 1}, 0, ok},
		{impl.Point{0, 0, 0}, impl.Point{0, 0, limit}, impl.Point{0, 0, 1}, 1048576, ok},
		{impl.Point{0, 0, 0}, impl.Point{0, 0, -limit}, impl.Point{0, 0, 1}, -1048576, ok},
		// The point need not be valid.
		{impl.Point{0, 0, 0}, impl.Point{impl.MaxSize, 0, limit}, impl.Point{1048576 * impl.MaxSize, 0, 1}, 1048576, ok},
		{impl.Point{0, 0, 0}, impl.Point{0, 0, below(limit)}, impl.Point{}, 0, state},
		{impl.Point{0, 0, 0}, impl.Point{0, 0, -below(limit)}, impl.Point{}, 0, state},
		{impl.Point{0, 0, 2}, impl.Point{1, 0, 2}, impl.Point{}, 0, state},
		{impl.Point{0, 0, 1}, impl.Point{1, 0, 1}, impl.Point{}, 0, state},
		{impl.Point{4, 5, 6}, impl.Point{4, 5, 6}, impl.Point{}, 0, state},
	}
	for _, c := range cases {
		same(t, "MeetLine "+row(c.a, c.b), three(impl.MeetLine(floor, c.a, c.b)), three(c.at, c.share, c.code))
	}
}

func TestMeetPlanes(t *testing.T) {
	ok, state := int64(impl.OK), int64(impl.ErrState)
	x := impl.Plane{N: impl.Point{1, 0, 0}, D: 2}
	cases := []struct {
		x, y    impl.Plane
		at, way impl.Point
		code    int64
	}{
		{floor, x, impl.Point{2, 0, 1}, impl.Point{0, 1, 0}, ok},
		{x, floor, impl.Point{2, 0, 1}, impl.Point{0, -1, 0}, ok},
		{x, impl.Plane{N: impl.Point{1, 0x1p-10, 0}, D: 2}, impl.Point{2, 0, 0}, impl.Point{0, 0, 1}, ok},
		{x, impl.Plane{N: impl.Point{1, below(0x1p-10), 0}, D: 2}, impl.Point{}, impl.Point{}, state},
		{x, x, impl.Point{}, impl.Point{}, state},
		{x, impl.Plane{N: impl.Point{-1, 0, 0}, D: 5}, impl.Point{}, impl.Point{}, state},
	}
	for _, c := range cases {
		at, way, code := impl.MeetPlanes(c.x, c.y)
		// Zeros of both signs are permitted here: TestPlanesToTheLastBit tells them apart.
		at, way = impl.AddPoints(at, impl.Point{}), impl.AddPoints(way, impl.Point{})
		same(t, "MeetPlanes "+row(c.x, c.y), three(at, way, code), three(c.at, c.way, c.code))
	}
}
