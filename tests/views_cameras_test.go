package tests

import (
	"testing"

	"loop.example/g01249/impl"
)

// straight is the camera of the example: its frame are the axes.
var straight = impl.Camera{At: impl.Point{0, 1, 0}, Up: impl.Point{0, 0, 1}, Far: 2, Near: 0.5}

// tilted has an Up that does not stand square to Ahead, and an eye elsewhere; its frame are the axes too.
var tilted = impl.Camera{Eye: impl.Point{10, 20, 30}, At: impl.Point{10, 23, 30}, Up: impl.Point{0, -5, 4}, Far: 2, Near: 0.5}

func with(change func(c *impl.Camera)) impl.Camera {
	c := straight
	change(&c)
	return c
}

// looking is a camera at the point of zeros that looks at a point.
func looking(at, up impl.Point) impl.Camera {
	return with(func(c *impl.Camera) { c.At, c.Up = at, up })
}

// badCameras are cameras that no function takes.
func badCameras() []impl.Camera {
	list := []impl.Camera{
		{},
		looking(impl.Point{}, impl.Point{0, 0, 1}),
		looking(impl.Point{0, below(limit), 0}, impl.Point{0, 0, 1}),
		looking(impl.Point{0, 1, 0}, impl.Point{}),
		looking(impl.Point{0, 1, 0}, impl.Point{0, 0, below(limit)}),
		// Up looks ahead, or back, just so or all too nearly.
		looking(impl.Point{0, 1, 0}, impl.Point{0, 2, 0}),
		looking(impl.Point{0, 1, 0}, impl.Point{0, -2, 0}),
		looking(impl.Point{1, 2, 3}, impl.Point{1, 2, 3}),
		looking(impl.Point{0, 1, 0}, impl.Point{below(limit), 1, 0}),
	}
	for _, a := range []float32{above(impl.MaxSize), below(-impl.MaxSize), infinite, -infinite, nan} {
		for i := range 3 {
			list = append(list,
				with(func(c *impl.Camera) { c.Eye[i] = a }),
				with(func(c *impl.Camera) { c.At[i] = a }),
				with(func(c *impl.Camera) { c.Up[i] = a }))
		}
	}
	for _, a := range []float32{below(1.0 / 64), 0, minusZero, -1, above(impl.MaxSize), infinite, -infinite, nan} {
		list = append(list,
			with(func(c *impl.Camera) { c.Far = a }),
			with(func(c *impl.Camera) { c.Near = a }))
	}
	return list
}

var badSpots = []impl.Spot{{above(impl.MaxSize), 0}, {0, below(-impl.MaxSize)}, {nan, 0}, {0, nan}, {infinite, 0}, {0, -infinite}}

func TestValidCamera(t *testing.T) {
	for _, c := range badCameras() {
		if impl.ValidCamera(c) {
			t.Errorf("ValidCamera %s: got true", row(c))
		}
	}
	const most = impl.MaxSize
	cameras := []impl.Camera{
		straight,
		tilted,
		with(func(c *impl.Camera) { c.Far, c.Near = 1.0/64, most }),
		with(func(c *impl.Camera) { c.Far, c.Near = most, 1.0/64 }),
		looking(impl.Point{0, limit, 0}, impl.Point{0, 0, limit}),
		looking(impl.Point{0, 1, 0}, impl.Point{limit, 1, 0}),
		looking(impl.Point{0, 1, 0}, impl.Point{limit, -most, 0}),
		looking(impl.Point{most, most, most}, impl.Point{-most, most, -most}),
		// Differences and products need not be plain.
		{Eye: impl.Point{-most, -most, -most}, At: impl.Point{most, most, most}, Up: impl.Point{0, 0, 1}, Far: 1, Near: 1},
	}
	for _, c := range cameras {
		if !impl.ValidCamera(c) {
			t.Errorf("ValidCamera %s: got false", row(c))
		}
	}
}

func TestSameCamera(t *testing.T) {
	strange := impl.Camera{
		Eye: impl.Point{nan, 0, minusZero}, At: impl.Point{infinite, nan, 1}, Up: impl.Point{0, -infinite, nan}, Far: nan, Near: minusZero,
	}
	for _, c := range append(badCameras(), straight, tilted, strange) {
		if !impl.SameCamera(c, c) {
			t.Errorf("SameCamera %s and itself: got false", row(c))
		}
	}
	zero := impl.Camera{}
	for _, a := range []float32{minusZero, tiniest, nan, infinite} {
		others := []impl.Camera{{Far: a}, {Near: a}}
		for i := range 3 {
			var p impl.Point
			p[i] = a
			others = append(others, impl.Camera{Eye: p}, impl.Camera{At: p}, impl.Camera{Up: p})
		}
		for _, c := range others {
			if impl.SameCamera(c, zero) || impl.SameCamera(zero, c) {
				t.Errorf("SameCamera of zeros and %s: got true", row(c))
			}
		}
	}
}

// withoutSigns makes all zeros of a frame positive; TestViewsToTheLastBit tells them apart.
func withoutSigns(f impl.Frame) impl.Frame {
	var zero impl.Point
	return impl.Frame{Right: sums(f.Right, zero), Up: sums(f.Up, zero), Ahead: sums(f.Ahead, zero)}
}

func TestFrameOf(t *testing.T) {
	right, ahead, up := impl.Point{1, 0, 0}, impl.Point{0, 1, 0}, impl.Point{0, 0, 1}
	cases := []struct {
		c    impl.Camera
		want impl.Frame
	}{
		{straight, impl.Frame{Right: right, Up: up, Ahead: ahead}},
		{tilted, impl.Frame{Right: right, Up: up, Ahead: ahead}},
		{looking(ahead, impl.Point{0, 0, -9}), impl.Frame{Right: impl.Point{-1, 0, 0}, Up: impl.Point{0, 0, -1}, Ahead: ahead}},
		{looking(impl.Point{0, -7, 0}, up), impl.Frame{Right: impl.Point{-1, 0, 0}, Up: up, Ahead: impl.Point{0, -1, 0}}},
		{looking(impl.Point{3, 4, 0}, up), impl.Frame{Right: impl.Point{0.8, -0.6, 0}, Up: up, Ahead: impl.Point{0.6, 0.8, 0}}},
		{looking(impl.Point{0, 0, -2}, ahead), impl.Frame{Right: right, Up: ahead, Ahead: impl.Point{0, 0, -1}}},
	}
	for _, c := range cases {
		f, code := impl.FrameOf(c.c)
		same(t, "FrameOf "+row(c.c), all(withoutSigns(f), code), all(c.want, codeOK))
	}
}

func TestDepthOf(t *testing.T) {
	cases := []struct {
		c    impl.Camera
		p    impl.Point
		want float32
	}{
		{straight, impl.Point{3, -2, 1}, -2},
		{straight, impl.Point{}, 0},
		{straight, impl.Point{7, 0.25, 7}, 0.25},
		{tilted, impl.Point{-5, 24, 100}, 4},
		{looking(impl.Point{3, 4, 0}, impl.Point{0, 0, 1}), impl.Point{5, 10, 99}, 11},
		{straight, impl.Point{impl.MaxSize, impl.MaxSize, impl.MaxSize}, impl.MaxSize},
		// The way to the point need not be plain.
		{with(func(c *impl.Camera) { c.Eye, c.At = impl.Point{0, -impl.MaxSize, 0}, impl.Point{} }), impl.Point{0, impl.MaxSize, 0}, 2 * impl.MaxSize},
	}
	for _, c := range cases {
		same(t, "DepthOf "+row(c.c, c.p), all(impl.DepthOf(c.c, c.p)), all(c.want, codeOK))
	}
}

func TestSumsOfViewsAreMadeFromLeftToRight(t *testing.T) {
	// A ray begins with Ahead, and a move with Right: here the last number alone would be lost, or not.
	c := looking(impl.Point{1, 1, 0}, impl.Point{0, 0, 1})
	c.Far = 1.0 / 64
	for _, s := range []impl.Spot{{impl.MaxSize, 1}, {-impl.MaxSize, 0.001}, {0.001, impl.MaxSize}} {
		same(t, "PointAt "+row(s), all(impl.PointAt(c, s, 3)), wantPointAt(c, s, 3))
		same(t, "RayThrough "+row(s), all(impl.RayThrough(c, s)), wantRayThrough(c, s))
	}
	c = looking(impl.Point{1, 1, 1}, impl.Point{0, 0, 1})
	for _, by := range []impl.Point{{100000, 0.01, -100000}, {0.01, 100000, -100000}, {100000, -100000, 0.01}} {
		same(t, "MoveCamera "+row(by), all(impl.MoveCamera(c, by[0], by[1], by[2])), two(wantMove(c, by[0], by[1], by[2])))
	}
}
