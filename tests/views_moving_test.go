package tests

import (
	"testing"

	"loop.example/g01249/impl"
)

// nearlySame fails if a camera is not nearly the one wanted, or if Far or Near are not the same.
func nearlySame(t *testing.T, name string, got impl.Camera, code int64, want impl.Camera) {
	t.Helper()
	const little = 0.00001
	if code != impl.OK || got.Far != want.Far || got.Near != want.Near || impl.DistanceBetween(got.Eye, want.Eye) > little ||
		impl.DistanceBetween(got.At, want.At) > little || impl.DistanceBetween(got.Up, want.Up) > little {
		t.Errorf("%s: got %s, want nearly %s", name, row(got, code), row(want))
	}
}

func TestMoveCamera(t *testing.T) {
	const most = impl.MaxSize
	moved := func(c impl.Camera, by impl.Point) impl.Camera {
		c.Eye, c.At = sums(c.Eye, by), sums(c.At, by)
		return c
	}
	turned := looking(impl.Point{3, 0, 0}, impl.Point{0, 0, 1})
	cases := []struct {
		c    impl.Camera
		by   impl.Point
		want impl.Camera
		code int64
	}{
		{straight, impl.Point{1, 0, 0}, moved(straight, impl.Point{1, 0, 0}), codeOK},
		{straight, impl.Point{1, 2, 3}, moved(straight, impl.Point{1, 3, 2}), codeOK},
		// The Up of the frame is not that of the camera, which stays.
		{tilted, impl.Point{1, 2, 3}, moved(tilted, impl.Point{1, 3, 2}), codeOK},
		{turned, impl.Point{1, 2, 3}, moved(turned, impl.Point{3, -1, 2}), codeOK},
		{straight, impl.Point{}, straight, codeOK},
		{straight, impl.Point{most, 0, 0}, moved(straight, impl.Point{most, 0, 0}), codeOK},
		{straight, impl.Point{-most, 0, -most + 1}, moved(straight, impl.Point{-most, -most + 1, 0}), codeOK},
		// The camera would not be valid: At or Eye is too far away, or both are too near to each other.
		{straight, impl.Point{0, 0, most}, impl.Camera{}, codeState},
		{straight, impl.Point{0, most, -most}, moved(straight, impl.Point{0, -most, most}), codeOK},
		{tilted, impl.Point{0, 0, most - 22}, impl.Camera{}, codeState},
		{tilted, impl.Point{-most, 0, 0}, moved(tilted, impl.Point{-most, 0, 0}), codeOK},
		{tilted, impl.Point{most, 0, 0}, impl.Camera{}, codeState},
		{looking(impl.Point{0, 0.01, 0}, impl.Point{0, 0, 1}), impl.Point{0, 0, most}, impl.Camera{}, codeState},
	}
	for _, c := range cases {
		got, code := impl.MoveCamera(c.c, c.by[0], c.by[1], c.by[2])
		if code == impl.OK {
			got.Eye, got.At = sums(got.Eye, impl.Point{}), sums(got.At, impl.Point{})
		}
		same(t, "MoveCamera "+row(c.c, c.by), all(got, code), all(c.want, c.code))
	}
	for _, a := range []float32{above(most), below(-most), infinite, -infinite, nan} {
		same(t, "MoveCamera right "+row(a), all(impl.MoveCamera(straight, a, 0, 0)), all(impl.Camera{}, codeRange))
		same(t, "MoveCamera up "+row(a), all(impl.MoveCamera(straight, 0, a, 0)), all(impl.Camera{}, codeRange))
		same(t, "MoveCamera ahead "+row(a), all(impl.MoveCamera(straight, 0, 0, a)), all(impl.Camera{}, codeRange))
		// ErrRange is ahead of ErrState.
		same(t, "MoveCamera far away "+row(a), all(impl.MoveCamera(straight, 0, a, most)), all(impl.Camera{}, codeRange))
	}
}

func TestTurnCamera(t *testing.T) {
	at := func(c impl.Camera, at impl.Point) impl.Camera {
		c.At = at
		return c
	}
	// At first it looks down; the Up of its frame lies between both axes.
	down := looking(impl.Point{0, 3, -3}, impl.Point{0, 0, 1})
	cases := []struct {
		c     impl.Camera
		turns float32
		want  impl.Camera
	}{
		{straight, 0.25, at(straight, impl.Point{-1, 0, 0})},
		{straight, -0.25, at(straight, impl.Point{1, 0, 0})},
		{straight, 0.5, at(straight, impl.Point{0, -1, 0})},
		{straight, 1000, straight},
		{straight, -1000, straight},
		// At is turned around Eye, and around the Up of the frame, not that of the camera.
		{tilted, 0.25, at(tilted, impl.Point{7, 20, 30})},
		{tilted, -0.25, at(tilted, impl.Point{13, 20, 30})},
		{down, 0.5, at(down, impl.Point{0, -3, 3})},
		{down, 0.25, at(down, impl.Point{-4.2426405, 0, 0})},
	}
	for _, c := range cases {
		got, code := impl.TurnCamera(c.c, c.turns)
		nearlySame(t, "TurnCamera "+row(c.c, c.turns), got, code, c.want)
	}
}

func TestTiltCamera(t *testing.T) {
	to := func(c impl.Camera, at, up impl.Point) impl.Camera {
		c.At, c.Up = at, up
		return c
	}
	cases := []struct {
		c     impl.Camera
		turns float32
		want  impl.Camera
	}{
		{straight, 0.25, to(straight, impl.Point{0, 0, 1}, impl.Point{0, -1, 0})},
		{straight, -0.25, to(straight, impl.Point{0, 0, -1}, impl.Point{0, 1, 0})},
		{straight, 1000, straight},
		{straight, -1000, straight},
		// Up is turned as a direction: where the eye is does not matter, and its length stays.
		{tilted, 0.25, to(tilted, impl.Point{10, 20, 33}, impl.Point{0, -4, -5})},
		{tilted, 0.5, to(tilted, impl.Point{10, 17, 30}, impl.Point{0, 5, -4})},
	}
	for _, c := range cases {
		got, code := impl.TiltCamera(c.c, c.turns)
		nearlySame(t, "TiltCamera "+row(c.c, c.turns), got, code, c.want)
	}
}

func TestTurnsOfCamerasThatAreNone(t *testing.T) {
	const most = impl.MaxSize
	none := impl.Camera{}
	for _, turns := range []float32{above(1000), below(-1000), 2000, impl.MaxSize, infinite, -infinite, nan} {
		same(t, "TurnCamera "+row(turns), all(impl.TurnCamera(straight, turns)), all(none, codeRange))
		same(t, "TiltCamera "+row(turns), all(impl.TiltCamera(straight, turns)), all(none, codeRange))
	}
	// The camera would not be valid: At would be too far away.
	edge := impl.Camera{Eye: impl.Point{most - 1, 0, 0}, At: impl.Point{most - 6, 0, 0}, Up: impl.Point{0, 0, 1}, Far: 1, Near: 1}
	same(t, "TurnCamera at the edge", all(impl.TurnCamera(edge, 0.5)), all(none, codeState))
	same(t, "TiltCamera at the edge", all(impl.TiltCamera(edge, 0.5)), all(none, codeState))
	// Up would be too long, although At would not be too far away.
	long := looking(impl.Point{0, 1, 0}, impl.Point{0, most, most})
	same(t, "TiltCamera with a long Up", all(impl.TiltCamera(long, 0.125)), all(none, codeState))
	// ErrRange is ahead of ErrState.
	same(t, "TurnCamera at the edge", all(impl.TurnCamera(edge, 1000.5)), all(none, codeRange))
	same(t, "TiltCamera at the edge", all(impl.TiltCamera(edge, 1000.5)), all(none, codeRange))
}

func TestWhatIsTurnedNeedNotBePlain(t *testing.T) {
	const most = impl.MaxSize
	wide := impl.Camera{Eye: impl.Point{-most, 0, 0}, At: impl.Point{most, 0, 0}, Up: impl.Point{0, 0, 1}, Far: 1, Near: 1}
	for _, turns := range []float32{0, 0.125, -0.125} {
		got, code := impl.TurnCamera(wide, turns)
		want, wantCode := wantTurnedCamera(wide, turns, false)
		if turns == 0 {
			same(t, "TurnCamera by nothing", all(got.At, code), all(impl.Point{most, 0, 0}, codeOK))
		}
		same(t, "TurnCamera "+row(turns), all(got, code), all(want, wantCode))
	}
	got, code := impl.TiltCamera(wide, 0)
	same(t, "TiltCamera by nothing", all(got.At, code), all(impl.Point{most, 0, 0}, codeOK))
}

func TestTwoViews(t *testing.T) {
	const most = impl.MaxSize
	beside := func(c impl.Camera, x float32) impl.Camera {
		c.Eye[0] += x
		c.At[0] += x
		return c
	}
	for _, c := range []impl.Camera{straight, tilted} {
		for _, apart := range []float32{1, 0.25, -3, 100} {
			left, right, code := impl.TwoViews(c, apart)
			nearlySame(t, "left of "+row(c, apart), left, code, beside(c, -apart/2))
			nearlySame(t, "right of "+row(c, apart), right, code, beside(c, apart/2))
			one, _ := impl.MoveCamera(c, -apart/2, 0, 0)
			other, _ := impl.MoveCamera(c, apart/2, 0, 0)
			same(t, "TwoViews "+row(c, apart), all(left, right, code), all(one, other, codeOK))
		}
	}
	// The halves have to be plain, and not what is told.
	for _, apart := range []float32{2 * most, -2 * most} {
		left, right, code := impl.TwoViews(straight, apart)
		same(t, "TwoViews "+row(apart), all(left.Eye[0], right.Eye[0], code), all(-apart/2, apart/2, codeOK))
	}
	none := impl.Camera{}
	for _, apart := range []float32{above(2 * most), below(-2 * most), infinite, -infinite, nan} {
		same(t, "TwoViews "+row(apart), all(impl.TwoViews(straight, apart)), all(none, none, codeRange))
	}
	// Of these, the left one would not be valid, or the right one.
	aside := with(func(c *impl.Camera) { c.Eye[0], c.At[0] = 1, 1 })
	for _, apart := range []float32{2 * most, -2 * most} {
		same(t, "TwoViews aside "+row(apart), all(impl.TwoViews(aside, apart)), all(none, none, codeState))
	}
}

func TestDepthFromTwo(t *testing.T) {
	const most = impl.MaxSize
	cases := []struct {
		apart       float32
		left, right impl.Spot
		want        float32
		code        int64
	}{
		{1, impl.Spot{0.75, 1}, impl.Spot{0.25, 1}, 4, codeOK},
		{3, impl.Spot{-1, 5}, impl.Spot{-2, -7}, 6, codeOK},
		{-3, impl.Spot{1, 0}, impl.Spot{-1, 0}, -3, codeOK},
		{0, impl.Spot{1, 0}, impl.Spot{-1, 0}, 0, codeOK},
		{minusZero, impl.Spot{1, 0}, impl.Spot{-1, 0}, minusZero, codeOK},
		{most, impl.Spot{most, 0}, impl.Spot{-most, 0}, 1, codeOK},
		{-most, impl.Spot{above(1), 0}, impl.Spot{1, 0}, -most * 2 * (1 << 23), codeOK},
		// There is no difference, or it is less than 0.
		{1, impl.Spot{0.5, 1}, impl.Spot{0.5, 2}, 0, codeState},
		{1, impl.Spot{0, 1}, impl.Spot{minusZero, 2}, 0, codeState},
		{1, impl.Spot{0.25, 1}, impl.Spot{0.75, 1}, 0, codeState},
		{0, impl.Spot{0.5, 1}, impl.Spot{0.5, 1}, 0, codeState},
		{-1, impl.Spot{0.25, 1}, impl.Spot{0.75, 1}, 0, codeState},
		// The depth would not be finite.
		{1, impl.Spot{tiniest, 1}, impl.Spot{0, 1}, 0, codeState},
		{-1, impl.Spot{tiniest, 1}, impl.Spot{0, 1}, 0, codeState},
		{1, impl.Spot{0x1p-126, 1}, impl.Spot{0, 1}, 0x1p127, codeOK},
		{1, impl.Spot{0x1p-127, 1}, impl.Spot{0, 1}, 0, codeState},
		{above(most), impl.Spot{0.75, 1}, impl.Spot{0.25, 1}, 0, codeRange},
		{below(-most), impl.Spot{0.75, 1}, impl.Spot{0.25, 1}, 0, codeRange},
		{infinite, impl.Spot{0.75, 1}, impl.Spot{0.25, 1}, 0, codeRange},
		{nan, impl.Spot{0.75, 1}, impl.Spot{0.25, 1}, 0, codeRange},
		// ErrRange is ahead of ErrState.
		{nan, impl.Spot{0.25, 1}, impl.Spot{0.75, 1}, 0, codeRange},
		{infinite, impl.Spot{}, impl.Spot{}, 0, codeRange},
	}
	for _, c := range cases {
		same(t, "DepthFromTwo "+row(c.apart, c.left, c.right), all(impl.DepthFromTwo(straight, c.apart, c.left, c.right)), all(c.want, c.code))
	}
}
