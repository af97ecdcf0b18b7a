package tests

import (
	"testing"

	"loop.example/g01249/impl"
)

// codesFound counts the codes that the calls of a function had.
type codesFound map[string]map[int64]int

// compare fails if the results are not the same as those wanted; the last one is the code.
func (f codesFound) compare(t *testing.T, name, args string, got, want []any) {
	t.Helper()
	same(t, name+" "+args, got, want)
	if f[name] == nil {
		f[name] = map[int64]int{}
	}
	f[name][got[len(got)-1].(int64)]++
}

// check fails if a function did not have a code: then the arguments do not tell enough.
func (f codesFound) check(t *testing.T, codes map[string][]int64) {
	t.Helper()
	for name, list := range codes {
		for _, code := range list {
			if f[name][code] < 10 {
				t.Errorf("%s: the code %d was found only %d times", name, code, f[name][code])
			}
		}
	}
}

func TestViewsToTheLastBit(t *testing.T) {
	m, found := newMaker(), codesFound{}
	backwards := 0
	for range rounds {
		c, p, s, x, depth := m.camera(), m.point(), m.spot(), m.plane(), m.number()
		if m.Intn(4) == 0 {
			c, s, x.N = m.squareCamera(), impl.Spot{m.nothing(), m.nothing()}, m.axis()
		}
		args := row(c, p, s, x, depth)
		_, valid := wantFrame(c)
		same(t, "ValidCamera "+args, all(impl.ValidCamera(c)), all(valid))
		found.compare(t, "FrameOf", args, all(impl.FrameOf(c)), wantFrameOf(c))
		found.compare(t, "DepthOf", args, all(impl.DepthOf(c, p)), wantDepthOf(c, p))
		found.compare(t, "ProjectPoint", args, all(impl.ProjectPoint(c, p)), wantProjectPoint(c, p))
		found.compare(t, "RayThrough", args, all(impl.RayThrough(c, s)), wantRayThrough(c, s))
		found.compare(t, "PointAt", args, all(impl.PointAt(c, s, depth)), wantPointAt(c, s, depth))
		found.compare(t, "VanishingSpot", args, all(impl.VanishingSpot(c, p)), wantVanishingSpot(c, p))
		found.compare(t, "HorizonOf", args, all(impl.HorizonOf(c, x)), wantHorizonOf(c, x))
		found.compare(t, "SeenOnPlane", args, all(impl.SeenOnPlane(c, x, s)), wantSeenOnPlane(c, x, s))
		if t.Failed() {
			return
		}
		if leadsBackwards(c, x, s) {
			backwards++
		}
	}
	if backwards < 10 {
		t.Errorf("there were only %d points with a share less than 0 that are deep enough", backwards)
	}
	found.check(t, map[string][]int64{
		"FrameOf":       {codeOK, codeInvalid},
		"DepthOf":       {codeOK, codeInvalid},
		"ProjectPoint":  {codeOK, codeInvalid, codeNotFound},
		"RayThrough":    {codeOK, codeInvalid},
		"PointAt":       {codeOK, codeInvalid, codeRange},
		"VanishingSpot": {codeOK, codeInvalid, codeNotFound},
		"HorizonOf":     {codeOK, codeInvalid},
		"SeenOnPlane":   {codeOK, codeInvalid, codeNotFound, codeState},
	})
}

// leadsBackwards reports whether a plane is met with a share less than 0, at a point that is deep enough.
// It is so where the frame does not stand square.
func leadsBackwards(c impl.Camera, x impl.Plane, s impl.Spot) bool {
	if _, valid := wantFrame(c); !valid || invalid(x) || !plain(s[:]...) {
		return false
	}
	p, share, code := wantMeetLineOfAny(x, c.Eye, sums(c.Eye, wantRay(c, s)))
	return code == impl.OK && share < 0 && wantDepth(c, p) >= c.Near
}

func TestLinesToTheLastBit(t *testing.T) {
	m, found := newMaker(), codesFound{}
	ends := map[string]int{}
	for range rounds {
		c, a, b := m.camera(), m.point(), m.point()
		args := row(c, a, b)
		found.compare(t, "ClipAhead", args, all(impl.ClipAhead(c, a, b)), wantClipAhead(c, a, b))
		found.compare(t, "ProjectLine", args, all(impl.ProjectLine(c, a, b)), wantProjectLine(c, a, b))
		if t.Failed() {
			return
		}
		ends[endsAhead(c, a, b)]++
	}
	found.check(t, map[string][]int64{
		"ClipAhead":   {codeOK, codeInvalid},
		"ProjectLine": {codeOK, codeInvalid},
	})
	for _, which := range []string{"none", "first", "second", "both", "replaced", "replaced elsewhere"} {
		if ends[which] < 100 {
			t.Errorf("there were only %d lines of the kind %q", ends[which], which)
		}
	}
}

// endsAhead tells which ends of a line are deep enough.
// Of those that have been replaced it tells whether their depth is calculated to be something else than Near.
func endsAhead(c impl.Camera, a, b impl.Point) string {
	if _, valid := wantFrame(c, a, b); !valid {
		return "invalid"
	}
	clipped, depths, seen := wantClip(c, a, b)
	if !seen {
		return "none"
	}
	for i, p := range clipped {
		if depths[i] == c.Near && wantDepth(c, p) != c.Near {
			return []string{"replaced", "replaced elsewhere"}[i]
		}
	}
	switch {
	case !impl.SamePoint(clipped[0], a):
		return "second"
	case !impl.SamePoint(clipped[1], b):
		return "first"
	}
	return "both"
}

func TestListsOfLinesToTheLastBit(t *testing.T) {
	m, found := newMaker(), codesFound{}
	for range rounds / 100 {
		c := m.camera()
		list := make([][2]impl.Point, m.Intn(2)*m.Intn(210))
		for i := range list {
			list[i] = [2]impl.Point{m.validPoint(), m.validPoint()}
		}
		if len(list) > 0 && m.Intn(4) == 0 {
			list[m.Intn(len(list))][m.Intn(2)] = m.anyPoint()
		}
		found.compare(t, "ProjectLines", row(c, list), all(impl.ProjectLines(c, list)), wantProjectLines(c, list))
		if t.Failed() {
			return
		}
	}
	found.check(t, map[string][]int64{"ProjectLines": {codeOK, codeInvalid}})
}

func TestMovedCamerasToTheLastBit(t *testing.T) {
	m, found := newMaker(), codesFound{}
	for range rounds {
		c, by, turns := m.camera(), m.point(), m.turns()
		left, right := m.spot(), m.spot()
		args := row(c, by, turns, left, right)
		found.compare(t, "MoveCamera", args, all(impl.MoveCamera(c, by[0], by[1], by[2])), two(wantMove(c, by[0], by[1], by[2])))
		found.compare(t, "TurnCamera", args, all(impl.TurnCamera(c, turns)), two(wantTurnedCamera(c, turns, false)))
		found.compare(t, "TiltCamera", args, all(impl.TiltCamera(c, turns)), two(wantTurnedCamera(c, turns, true)))
		found.compare(t, "TwoViews", args, all(impl.TwoViews(c, by[0])), wantTwoViews(c, by[0]))
		found.compare(t, "DepthFromTwo", args, all(impl.DepthFromTwo(c, by[0], left, right)), wantDepthFromTwo(c, by[0], left, right))
		if t.Failed() {
			return
		}
	}
	codes := []int64{codeOK, codeInvalid, codeRange, codeState}
	found.check(t, map[string][]int64{
		"MoveCamera": codes, "TurnCamera": codes, "TiltCamera": codes, "TwoViews": codes, "DepthFromTwo": codes,
	})
}

func TestCameraTextsToTheLastBit(t *testing.T) {
	m := newMaker()
	for range rounds {
		c := m.camera()
		text := "camera"
		for _, a := range []float32{
			c.Eye[0], c.Eye[1], c.Eye[2], c.At[0], c.At[1], c.At[2], c.Up[0], c.Up[1], c.Up[2], c.Far, c.Near,
		} {
			text += " " + impl.NumberText(a)
		}
		if _, valid := wantFrame(c); valid {
			same(t, "CameraText "+row(c), all(impl.CameraText(c)), all(text))
			same(t, "ReadCamera "+text, all(impl.ReadCamera(text)), all(c, codeOK))
		} else {
			same(t, "CameraText "+row(c), all(impl.CameraText(c)), all(""))
			same(t, "ReadCamera "+text, all(impl.ReadCamera(text)), all(impl.Camera{}, codeSyntax))
		}
		if t.Failed() {
			return
		}
	}
}
