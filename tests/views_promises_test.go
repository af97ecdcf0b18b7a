package tests

import (
	"math"
	"strings"
	"testing"

	"loop.example/g01249/impl"
)

// viewCallsWithCodes are calls of all functions of chapter 2 that return a code.
func viewCallsWithCodes(m maker) []call {
	c, p, q, s, other, x := m.camera(), m.point(), m.point(), m.spot(), m.spot(), m.plane()
	a, b, d, turns := m.number(), m.plain(), m.plain(), m.turns()
	list := make([][2]impl.Point, m.Intn(4), 10)
	for i := range list {
		list[i] = [2]impl.Point{m.point(), m.validPoint()}
	}
	text := impl.CameraText(c)
	if m.Intn(4) == 0 {
		text = strings.Replace(text, "0", "1", m.Intn(4))
	}
	return []call{
		{"FrameOf", func() []any { return all(impl.FrameOf(c)) }},
		{"DepthOf", func() []any { return all(impl.DepthOf(c, p)) }},
		{"ProjectPoint", func() []any { return all(impl.ProjectPoint(c, p)) }},
		{"RayThrough", func() []any { return all(impl.RayThrough(c, s)) }},
		{"PointAt", func() []any { return all(impl.PointAt(c, s, a)) }},
		{"VanishingSpot", func() []any { return all(impl.VanishingSpot(c, p)) }},
		{"HorizonOf", func() []any { return all(impl.HorizonOf(c, x)) }},
		{"ClipAhead", func() []any { return all(impl.ClipAhead(c, p, q)) }},
		{"ProjectLine", func() []any { return all(impl.ProjectLine(c, p, q)) }},
		{"ProjectLines", func() []any { return all(impl.ProjectLines(c, list)) }},
		{"SeenOnPlane", func() []any { return all(impl.SeenOnPlane(c, x, s)) }},
		{"MoveCamera", func() []any { return all(impl.MoveCamera(c, b, a, d)) }},
		{"TurnCamera", func() []any { return all(impl.TurnCamera(c, turns)) }},
		{"TiltCamera", func() []any { return all(impl.TiltCamera(c, turns)) }},
		{"TwoViews", func() []any { return all(impl.TwoViews(c, b)) }},
		{"DepthFromTwo", func() []any { return all(impl.DepthFromTwo(c, b, s, other)) }},
		{"ReadCamera", func() []any { return all(impl.ReadCamera(text)) }},
	}
}

// viewCallsWithoutCodes are calls of all the others.
func viewCallsWithoutCodes(m maker) []call {
	c, d := m.camera(), m.camera()
	return []call{
		{"ValidCamera", func() []any { return all(impl.ValidCamera(c)) }},
		{"SameCamera", func() []any { return all(impl.SameCamera(c, d), impl.SameCamera(c, c)) }},
		{"CameraText", func() []any { return all(impl.CameraText(c)) }},
	}
}

func TestP1NothingIsSeenWhereFalse(t *testing.T) {
	m := newMaker()
	found := 0
	for range rounds {
		c, a, b := m.camera(), m.point(), m.point()
		from, to, seen, code := impl.ClipAhead(c, a, b)
		if code == impl.OK && !seen {
			found++
		}
		if !seen {
			same(t, "ClipAhead "+row(c, a, b), all(from, to), all(impl.Point{}, impl.Point{}))
			one, other, drawn, lineCode := impl.ProjectLine(c, a, b)
			same(t, "ProjectLine "+row(c, a, b), all(one, other, drawn, lineCode), all(impl.Spot{}, impl.Spot{}, false, code))
		}
	}
	if found < 100 {
		t.Errorf("there were only %d lines that are not seen", found)
	}
}

func TestExampleOfViews(t *testing.T) {
	c := impl.Camera{Eye: impl.Point{0, 0, 0}, At: impl.Point{0, 1, 0}, Up: impl.Point{0, 0, 1}, Far: 2, Near: 0.5}
	same(t, "ProjectPoint", all(impl.ProjectPoint(c, impl.Point{1, 4, 2})), all(impl.Spot{0.5, 1}, float32(4), codeOK))
	same(t, "PointAt", all(impl.PointAt(c, impl.Spot{0.5, 1}, 4)), all(impl.Point{1, 4, 2}, codeOK))
	same(t, "VanishingSpot", all(impl.VanishingSpot(c, impl.Point{1, 1, 0})), all(impl.Spot{2, 0}, codeOK))
	same(t, "ClipAhead", all(impl.ClipAhead(c, impl.Point{0, -1, 1}, impl.Point{0, 3, 1})),
		all(impl.Point{0, 0.5, 1}, impl.Point{0, 3, 1}, true, codeOK))
	moved, code := impl.MoveCamera(c, 1, 0, 0)
	same(t, "MoveCamera", all(moved.Eye, code), all(impl.Point{1, 0, 0}, codeOK))
}

func TestP4FramesStandSquare(t *testing.T) {
	m := newMaker()
	for range rounds {
		c := m.ordinaryCamera()
		f, code := impl.FrameOf(c)
		for _, a := range []float32{
			impl.LengthOf(f.Right) - 1, impl.LengthOf(f.Up) - 1, impl.LengthOf(f.Ahead) - 1,
			impl.DotOf(f.Right, f.Up), impl.DotOf(f.Up, f.Ahead), impl.DotOf(f.Ahead, f.Right),
		} {
			if code != impl.OK || !near(a, 0) {
				t.Fatalf("FrameOf %s: got %s", row(c), row(f, code))
			}
		}
		// What is upwards for the camera is upwards in the frame, and what is right of it stands level.
		if impl.DotOf(c.Up, f.Up) <= 0 || !near(impl.DotOf(c.Up, f.Right), 3) || impl.DotOf(f.Ahead, impl.SubPoints(c.At, c.Eye)) <= 0 {
			t.Fatalf("FrameOf %s: got %s", row(c), row(f, code))
		}
	}
}

// isNear reports whether two points are as near as narrow numbers allow, beside a size.
func isNear(p, q impl.Point, size float32) bool { return near(impl.DistanceBetween(p, q), size) }

func TestP4WhatIsSeenIsThePoint(t *testing.T) {
	m := newMaker()
	seen, onPlane := 0, 0
	for range rounds {
		c, p := m.ordinaryCamera(), m.pointWithin(10)
		s, depth, code := impl.ProjectPoint(c, p)
		if code != impl.OK {
			continue
		}
		seen++
		args := row(c, p, s, depth)
		if q, code := impl.PointAt(c, s, depth); code != impl.OK || !isNear(p, q, 20) {
			t.Fatalf("PointAt %s: got %s", args, row(q, code))
		}
		distance := impl.DistanceBetween(p, c.Eye)
		ray, code := impl.RayThrough(c, s)
		if code != impl.OK || !near(impl.LengthOf(ray)-1, 0) || !isNear(p, impl.AddPoints(c.Eye, impl.ScalePoint(ray, distance)), 20) {
			t.Fatalf("RayThrough %s: got %s", args, row(ray, code))
		}
		x, code := impl.PlaneAt(p, m.pointWithin(1))
		// Where the ray goes nearly along a plane it can hardly be told where they meet.
		if code != impl.OK || math.Abs(float64(impl.DotOf(x.N, ray))) < 0.2 {
			continue
		}
		onPlane++
		if q, code := impl.SeenOnPlane(c, x, s); code != impl.OK && depth > c.Near*1.001 || code == impl.OK && !isNear(p, q, 100) {
			t.Fatalf("SeenOnPlane %s: got %s", row(c, x, s), row(q, code))
		}
	}
	if seen < rounds/10 || onPlane < rounds/20 {
		t.Errorf("only %d points are seen, and %d on a plane", seen, onPlane)
	}
}

func TestP4ParallelLinesGoToTheirVanishingSpot(t *testing.T) {
	m := newMaker()
	found := 0
	for range rounds {
		c, way, from := m.ordinaryCamera(), m.pointWithin(1), m.pointWithin(10)
		s, code := impl.VanishingSpot(c, way)
		depth, _ := impl.DepthOf(c, impl.AddPoints(c.Eye, way))
		if code != impl.OK || depth < 0.1 {
			continue
		}
		found++
		// What is very far away on a line is seen near that spot.
		q := impl.AddPoints(from, impl.ScalePoint(way, 500000))
		got, _, code := impl.ProjectPoint(c, q)
		little := 0.002 * (2 + math.Hypot(float64(s[0]), float64(s[1])))
		if code != impl.OK || math.Hypot(float64(got[0]-s[0]), float64(got[1]-s[1])) > little {
			t.Fatalf("VanishingSpot %s: got %s, but %s is seen at %s", row(c, way), row(s), row(q), row(got, code))
		}
		// The ways in a plane go to spots of its horizon.
		x := impl.Plane{}
		if x.N, code = impl.UnitOf(impl.CrossOf(way, m.pointWithin(1))); code != impl.OK {
			continue
		}
		h, code := impl.HorizonOf(c, x)
		if code != impl.OK || !near(h[0]*s[0]+h[1]*s[1]-h[2], 200) {
			t.Fatalf("HorizonOf %s: got %s, but the spot is %s", row(c, x), row(h, code), row(s))
		}
	}
	if found < rounds/10 {
		t.Errorf("only %d lines go to a spot", found)
	}
}

func TestP5WhatIsClippedIsAsDeepAsNear(t *testing.T) {
	m := newMaker()
	replaced := 0
	for range rounds {
		c, a, b := m.ordinaryCamera(), m.pointWithin(10), m.pointWithin(10)
		first, other, seen, code := impl.ClipAhead(c, a, b)
		args := row(c, a, b)
		for i, p := range []impl.Point{first, other} {
			end := []impl.Point{a, b}[i]
			depth, _ := impl.DepthOf(c, end)
			now, _ := impl.DepthOf(c, p)
			switch {
			case code != impl.OK:
				t.Fatalf("ClipAhead %s: got the code %d", args, code)
			case !seen && depth >= c.Near:
				t.Fatalf("ClipAhead %s: nothing is seen", args)
			case !seen:
			case depth >= c.Near && !impl.SamePoint(p, end):
				t.Fatalf("ClipAhead %s: %s was replaced", args, row(end))
			case depth < c.Near && !near(now-c.Near, 20):
				t.Fatalf("ClipAhead %s: got %s, as deep as %v", args, row(p), now)
			case depth < c.Near:
				replaced++
				// It lies on the line, between both ends.
				detour := impl.DistanceBetween(a, p) + impl.DistanceBetween(p, b) - impl.DistanceBetween(a, b)
				if !near(detour, 20) {
					t.Fatalf("ClipAhead %s: %s is not on the line", args, row(p))
				}
			}
		}
	}
	if replaced < rounds/10 {
		t.Errorf("only %d ends are replaced", replaced)
	}
}

func TestP5TwoViewsTellTheDepth(t *testing.T) {
	m := newMaker()
	found := 0
	for range rounds {
		c, p, apart := m.ordinaryCamera(), m.pointWithin(10), 0.5+m.Float32()
		depth, _ := impl.DepthOf(c, p)
		if depth < c.Near*1.001 {
			continue
		}
		found++
		left, right, code := impl.TwoViews(c, apart)
		if code != impl.OK || !near(impl.DistanceBetween(left.Eye, right.Eye)-apart, 20) {
			t.Fatalf("TwoViews %s: got %s", row(c, apart), row(left, right, code))
		}
		one, _, code := impl.ProjectPoint(left, p)
		other, _, otherCode := impl.ProjectPoint(right, p)
		got, depthCode := impl.DepthFromTwo(c, apart, one, other)
		// Small differences of great numbers have few bits left.
		little := 0.0001 * (1 + depth) * (1 + depth) * (1 + float32(math.Abs(float64(one[0])))/c.Far)
		if code != impl.OK || otherCode != impl.OK || depthCode != impl.OK || float32(math.Abs(float64(got-depth))) > little {
			t.Fatalf("DepthFromTwo %s: got %s, want nearly %v", row(c, apart, one, other), row(got, depthCode), depth)
		}
	}
	if found < rounds/10 {
		t.Errorf("only %d points are deep enough", found)
	}
}
