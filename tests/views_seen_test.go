package tests

import (
	"testing"

	"loop.example/g01249/impl"
)

// viewCall is a function of a camera with all other arguments.
type viewCall struct {
	name string
	run  func(c impl.Camera) []any
	none []any
}

// goodViewCalls are calls that are found for the cameras straight and tilted.
func goodViewCalls() []viewCall {
	p, q, s, x := impl.Point{11, 24, 32}, impl.Point{9, 30, 29}, impl.Spot{0.5, 1}, impl.Plane{N: impl.Point{0, -1, 0}, D: -40}
	line := [][2]impl.Point{{p, q}}
	zero, none := impl.Point{}, impl.Camera{}
	return []viewCall{
		{"FrameOf", func(c impl.Camera) []any { return all(impl.FrameOf(c)) }, all(impl.Frame{})},
		{"DepthOf", func(c impl.Camera) []any { return all(impl.DepthOf(c, p)) }, all(float32(0))},
		{"ProjectPoint", func(c impl.Camera) []any { return all(impl.ProjectPoint(c, p)) }, all(impl.Spot{}, float32(0))},
		{"RayThrough", func(c impl.Camera) []any { return all(impl.RayThrough(c, s)) }, all(zero)},
		{"PointAt", func(c impl.Camera) []any { return all(impl.PointAt(c, s, 4)) }, all(zero)},
		{"VanishingSpot", func(c impl.Camera) []any { return all(impl.VanishingSpot(c, p)) }, all(impl.Spot{})},
		{"HorizonOf", func(c impl.Camera) []any { return all(impl.HorizonOf(c, x)) }, all(zero)},
		{"ClipAhead", func(c impl.Camera) []any { return all(impl.ClipAhead(c, p, q)) }, all(zero, zero, false)},
		{"ProjectLine", func(c impl.Camera) []any { return all(impl.ProjectLine(c, p, q)) }, all(impl.Spot{}, impl.Spot{}, false)},
		{"ProjectLines", func(c impl.Camera) []any { return all(impl.ProjectLines(c, line)) }, all([][2]impl.Spot{}, []int64{})},
		{"ProjectLines of none", func(c impl.Camera) []any { return all(impl.ProjectLines(c, nil)) }, all([][2]impl.Spot{}, []int64{})},
		{"SeenOnPlane", func(c impl.Camera) []any { return all(impl.SeenOnPlane(c, x, s)) }, all(zero)},
		{"MoveCamera", func(c impl.Camera) []any { return all(impl.MoveCamera(c, 1, 2, 3)) }, all(none)},
		{"TurnCamera", func(c impl.Camera) []any { return all(impl.TurnCamera(c, 0.25)) }, all(none)},
		{"TiltCamera", func(c impl.Camera) []any { return all(impl.TiltCamera(c, 0.25)) }, all(none)},
		{"TwoViews", func(c impl.Camera) []any { return all(impl.TwoViews(c, 1)) }, all(none, none)},
		{"DepthFromTwo", func(c impl.Camera) []any { return all(impl.DepthFromTwo(c, 1, impl.Spot{1, 0}, s)) }, all(float32(0))},
	}
}

func TestCamerasThatAreNotValid(t *testing.T) {
	for _, call := range goodViewCalls() {
		for _, c := range []impl.Camera{straight, tilted} {
			results := call.run(c)
			if code := results[len(results)-1]; code != any(codeOK) {
				t.Errorf("%s of %s: got the code %d", call.name, row(c), code)
			}
		}
		for _, c := range badCameras() {
			same(t, call.name+" of "+row(c), call.run(c), append(call.none[:len(call.none):len(call.none)], codeInvalid))
		}
	}
}

// ErrInvalid is ahead of all other errors: the other arguments are not in their ranges.
func TestOtherArgumentsThatAreNotValid(t *testing.T) {
	c, none := straight, impl.Point{}
	x := impl.Plane{N: impl.Point{0, 0, 1}}
	for _, p := range badPoints {
		same(t, "DepthOf "+row(p), all(impl.DepthOf(c, p)), all(float32(0), codeInvalid))
		same(t, "ProjectPoint "+row(p), all(impl.ProjectPoint(c, p)), all(impl.Spot{}, float32(0), codeInvalid))
		same(t, "VanishingSpot "+row(p), all(impl.VanishingSpot(c, p)), all(impl.Spot{}, codeInvalid))
		for _, line := range [][2]impl.Point{{p, none}, {none, p}, {p, {0, 1, 0}}, {{0, 1, 0}, p}} {
			same(t, "ClipAhead "+row(line), all(impl.ClipAhead(c, line[0], line[1])), all(none, none, false, codeInvalid))
			same(t, "ProjectLine "+row(line), all(impl.ProjectLine(c, line[0], line[1])), all(impl.Spot{}, impl.Spot{}, false, codeInvalid))
		}
	}
	for _, s := range badSpots {
		same(t, "RayThrough "+row(s), all(impl.RayThrough(c, s)), all(none, codeInvalid))
		same(t, "PointAt "+row(s), all(impl.PointAt(c, s, -1)), all(none, codeInvalid))
		same(t, "SeenOnPlane "+row(s), all(impl.SeenOnPlane(c, x, s)), all(none, codeInvalid))
		same(t, "DepthFromTwo left "+row(s), all(impl.DepthFromTwo(c, nan, s, impl.Spot{})), all(float32(0), codeInvalid))
		same(t, "DepthFromTwo right "+row(s), all(impl.DepthFromTwo(c, nan, impl.Spot{}, s)), all(float32(0), codeInvalid))
	}
	for _, x := range badPlanes {
		same(t, "HorizonOf "+row(x), all(impl.HorizonOf(c, x)), all(none, codeInvalid))
		same(t, "SeenOnPlane "+row(x), all(impl.SeenOnPlane(c, x, impl.Spot{})), all(none, codeInvalid))
	}
	bad := impl.Camera{}
	same(t, "PointAt", all(impl.PointAt(bad, impl.Spot{}, nan)), all(none, codeInvalid))
	same(t, "MoveCamera", all(impl.MoveCamera(bad, nan, 0, 0)), all(bad, codeInvalid))
	same(t, "TurnCamera", all(impl.TurnCamera(bad, 2000)), all(bad, codeInvalid))
	same(t, "TiltCamera", all(impl.TiltCamera(bad, 2000)), all(bad, codeInvalid))
	same(t, "TwoViews", all(impl.TwoViews(bad, nan)), all(bad, bad, codeInvalid))
	same(t, "ProjectLines", all(impl.ProjectLines(bad, make([][2]impl.Point, 201))), all([][2]impl.Spot{}, []int64{}, codeInvalid))
}

func TestProjectPoint(t *testing.T) {
	cases := []struct {
		c     impl.Camera
		p     impl.Point
		s     impl.Spot
		depth float32
		code  int64
	}{
		{straight, impl.Point{1, 4, 2}, impl.Spot{0.5, 1}, 4, codeOK},
		{tilted, impl.Point{11, 24, 32}, impl.Spot{0.5, 1}, 4, codeOK},
		{tilted, impl.Point{6, 28, 28}, impl.Spot{-1, -0.5}, 8, codeOK},
		// The other axis ahead: what is beyond the first axis is to the left.
		{looking(impl.Point{5, 0, 0}, impl.Point{0, 0, 1}), impl.Point{2, 1, 3}, impl.Spot{-1, 3}, 2, codeOK},
		// Just as deep as Near, and a little less.
		{straight, impl.Point{1, 0.5, 3}, impl.Spot{4, 12}, 0.5, codeOK},
		{straight, impl.Point{1, below(0.5), 3}, impl.Spot{}, 0, codeNotFound},
		{straight, impl.Point{1, 0, 3}, impl.Spot{}, 0, codeNotFound},
		{straight, impl.Point{1, -4, 3}, impl.Spot{}, 0, codeNotFound},
		{straight, impl.Point{}, impl.Spot{}, 0, codeNotFound},
		// The spot need not be plain.
		{with(func(c *impl.Camera) { c.Far = impl.MaxSize }), impl.Point{2, 0.5, -4}, impl.Spot{4 * impl.MaxSize, -8 * impl.MaxSize}, 0.5, codeOK},
	}
	for _, c := range cases {
		s, depth, code := impl.ProjectPoint(c.c, c.p)
		same(t, "ProjectPoint "+row(c.c, c.p), all(s, depth, code), all(c.s, c.depth, c.code))
	}
}

func TestProjectionIsDividedFirst(t *testing.T) {
	different := 0
	for i := range 100 {
		x, depth := float32(i)+0.3, float32(i)/7+1
		c := with(func(c *impl.Camera) { c.Far = 3 })
		s, _, code := impl.ProjectPoint(c, impl.Point{x, depth, 0})
		want := product(quotient(x, depth), 3)
		same(t, "ProjectPoint", all(s[0], code), all(want, codeOK))
		if want != quotient(product(x, 3), depth) && want != product(x, quotient(3, depth)) {
			different++
		}
	}
	if different == 0 {
		t.Error("the numbers do not tell the orders apart")
	}
}

func TestRayThrough(t *testing.T) {
	cases := []struct {
		c    impl.Camera
		s    impl.Spot
		want impl.Point
	}{
		{straight, impl.Spot{}, impl.Point{0, 1, 0}},
		{tilted, impl.Spot{0, 1.5}, impl.Point{0, 0.8, 0.6}},
		{tilted, impl.Spot{-1.5, 0}, impl.Point{-0.6, 0.8, 0}},
		// What is made a unit need not be plain.
		{with(func(c *impl.Camera) { c.At, c.Far = impl.Point{1, 1, 0}, impl.MaxSize }), impl.Spot{-impl.MaxSize, 0}, impl.Point{0, 1, 0}},
		{with(func(c *impl.Camera) { c.At, c.Far = impl.Point{1, 1, 0}, impl.MaxSize }), impl.Spot{impl.MaxSize, 0}, impl.Point{1, 0, 0}},
	}
	for _, c := range cases {
		got, code := impl.RayThrough(c.c, c.s)
		if code != impl.OK || impl.DistanceBetween(got, c.want) > 0.000001 {
			t.Errorf("RayThrough %s: got %s, want nearly %s", row(c.c, c.s), row(got, code), row(c.want))
		}
	}
}

func TestPointAt(t *testing.T) {
	cases := []struct {
		c     impl.Camera
		s     impl.Spot
		depth float32
		want  impl.Point
		code  int64
	}{
		{straight, impl.Spot{0.5, 1}, 4, impl.Point{1, 4, 2}, codeOK},
		{tilted, impl.Spot{0.5, 1}, 4, impl.Point{11, 24, 32}, codeOK},
		{tilted, impl.Spot{-4, 2}, 8, impl.Point{-6, 28, 38}, codeOK},
		{straight, impl.Spot{4, 12}, 0.5, impl.Point{1, 0.5, 3}, codeOK},
		{straight, impl.Spot{}, impl.MaxSize, impl.Point{0, impl.MaxSize, 0}, codeOK},
		// The point need not be valid.
		{straight, impl.Spot{8, 0}, impl.MaxSize, impl.Point{4 * impl.MaxSize, impl.MaxSize, 0}, codeOK},
		{straight, impl.Spot{0.5, 1}, below(0.5), impl.Point{}, codeRange},
		{straight, impl.Spot{0.5, 1}, 0, impl.Point{}, codeRange},
		{straight, impl.Spot{0.5, 1}, -4, impl.Point{}, codeRange},
		{straight, impl.Spot{0.5, 1}, above(impl.MaxSize), impl.Point{}, codeRange},
		{straight, impl.Spot{0.5, 1}, infinite, impl.Point{}, codeRange},
		{straight, impl.Spot{0.5, 1}, -infinite, impl.Point{}, codeRange},
		{straight, impl.Spot{0.5, 1}, nan, impl.Point{}, codeRange},
	}
	for _, c := range cases {
		p, code := impl.PointAt(c.c, c.s, c.depth)
		same(t, "PointAt "+row(c.c, c.s, c.depth), all(sums(p, impl.Point{}), code), all(c.want, c.code))
	}
}

func TestVanishingSpot(t *testing.T) {
	cases := []struct {
		c    impl.Camera
		way  impl.Point
		want impl.Spot
		code int64
	}{
		{straight, impl.Point{1, 1, 0}, impl.Spot{2, 0}, codeOK},
		{tilted, impl.Point{1, 1, 3}, impl.Spot{2, 6}, codeOK},
		// Both directions of a line go to the same spot, also the one that leads back.
		{tilted, impl.Point{-1, -1, -3}, impl.Spot{2, 6}, codeOK},
		{tilted, impl.Point{1, -4, 2}, impl.Spot{-0.5, -1}, codeOK},
		// Near does not matter.
		{straight, impl.Point{1, 0.125, 0}, impl.Spot{16, 0}, codeOK},
		{straight, impl.Point{1, limit, 1}, impl.Spot{1 << 21, 1 << 21}, codeOK},
		{straight, impl.Point{1, -limit, 1}, impl.Spot{-1 << 21, -1 << 21}, codeOK},
		{straight, impl.Point{1, below(limit), 1}, impl.Spot{}, codeNotFound},
		{straight, impl.Point{1, -below(limit), 1}, impl.Spot{}, codeNotFound},
		// Square to Ahead.
		{straight, impl.Point{1, 0, 0}, impl.Spot{}, codeNotFound},
		{tilted, impl.Point{-3, 0, 4}, impl.Spot{}, codeNotFound},
		{straight, impl.Point{}, impl.Spot{}, codeNotFound},
	}
	for _, c := range cases {
		s, code := impl.VanishingSpot(c.c, c.way)
		s[0], s[1] = sum(s[0], 0), sum(s[1], 0)
		same(t, "VanishingSpot "+row(c.c, c.way), all(s, code), all(c.want, c.code))
	}
}

func TestHorizonOf(t *testing.T) {
	cases := []struct {
		c    impl.Camera
		x    impl.Plane
		want impl.Point
	}{
		// The opposite of 0 is -0.
		{tilted, impl.Plane{N: impl.Point{0, 0, 1}, D: 7}, impl.Point{0, 1, minusZero}},
		{tilted, impl.Plane{N: impl.Point{1, 0, 0}}, impl.Point{1, 0, minusZero}},
		{tilted, impl.Plane{N: impl.Point{0, 0.6, 0.8}, D: -1}, impl.Point{0, 0.8, -1.2}},
		{tilted, impl.Plane{N: impl.Point{0.6, -0.8, 0}, D: 5}, impl.Point{0.6, 0, 1.6}},
		{tilted, impl.Plane{N: impl.Point{0, 1, 0}}, impl.Point{0, 0, -2}},
	}
	for _, c := range cases {
		h, code := impl.HorizonOf(c.c, c.x)
		h[0], h[1] = sum(h[0], 0), sum(h[1], 0)
		same(t, "HorizonOf "+row(c.c, c.x), all(h, code), all(c.want, codeOK))
	}
}

func TestSeenOnPlane(t *testing.T) {
	wall := func(d float32) impl.Plane { return impl.Plane{N: impl.Point{0, 1, 0}, D: d} }
	ground := impl.Plane{N: impl.Point{0, 0, 1}, D: -1}
	tiny := with(func(c *impl.Camera) { c.Far = 1.0 / 64 })
	cases := []struct {
		c    impl.Camera
		x    impl.Plane
		s    impl.Spot
		want impl.Point
		code int64
	}{
		{straight, ground, impl.Spot{0, -1}, impl.Point{0, 2, -1}, codeOK},
		{straight, ground, impl.Spot{3, -0.5}, impl.Point{6, 4, -1}, codeOK},
		{tilted, wall(24), impl.Spot{0.5, 1}, impl.Point{11, 24, 32}, codeOK},
		{tilted, impl.Plane{N: impl.Point{0, -1, 0}, D: -24}, impl.Spot{0.5, 1}, impl.Point{11, 24, 32}, codeOK},
		// Just as deep as Near, and a little less.
		{straight, wall(0.5), impl.Spot{4, 12}, impl.Point{1, 0.5, 3}, codeOK},
		{straight, wall(below(0.5)), impl.Spot{4, 12}, impl.Point{}, codeNotFound},
		// The plane is at the eye, or behind it.
		{straight, wall(0), impl.Spot{4, 12}, impl.Point{}, codeNotFound},
		{straight, wall(-3), impl.Spot{4, 12}, impl.Point{}, codeNotFound},
		{straight, ground, impl.Spot{0, 1}, impl.Point{}, codeNotFound},
		// The ray goes along the plane, just so or nearly.
		{straight, ground, impl.Spot{0, 0}, impl.Point{}, codeState},
		{straight, impl.Plane{N: impl.Point{0, 0, 1}}, impl.Spot{7, 0}, impl.Point{}, codeState},
		{straight, ground, impl.Spot{0, -limit}, impl.Point{0, 2 << 20, -1}, codeOK},
		{straight, ground, impl.Spot{0, -below(limit)}, impl.Point{}, codeState},
		{straight, ground, impl.Spot{0, below(limit)}, impl.Point{}, codeState},
		{straight, ground, impl.Spot{0, limit}, impl.Point{}, codeNotFound},
		// The other end of the ray need not be valid.
		{with(func(c *impl.Camera) { c.Eye, c.At[1], c.Far = impl.Point{0, impl.MaxSize - 1, 0}, impl.MaxSize, 4 }), wall(impl.MaxSize), impl.Spot{2, 2}, impl.Point{0.5, impl.MaxSize, 0.5}, codeOK},
		{tiny, wall(1), impl.Spot{}, impl.Point{0, 1, 0}, codeOK},
	}
	for _, c := range cases {
		p, code := impl.SeenOnPlane(c.c, c.x, c.s)
		same(t, "SeenOnPlane "+row(c.c, c.x, c.s), all(sums(p, impl.Point{}), code), all(c.want, c.code))
	}
}
