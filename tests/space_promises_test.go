package tests

import (
	"math"
	"reflect"
	"strings"
	"testing"

	"loop.example/g01249/impl"
)

// call is a function with its arguments; it returns the results, and then the code.
type call struct {
	name string
	run  func() []any
}

// chapters are the calls of all functions, those that return a code and the others, and how often they are tried.
var chapters = []struct {
	rounds                  int
	withCodes, withoutCodes func(m maker) []call
}{
	{rounds, spaceCallsWithCodes, spaceCallsWithoutCodes},
	{rounds, viewCallsWithCodes, viewCallsWithoutCodes},
	{rounds / 10, solidCallsWithCodes, solidCallsWithoutCodes},
	{rounds / 10, shadowCallsWithCodes, shadowCallsWithoutCodes},
	{rounds / 2, photoCallsWithCodes, photoCallsWithoutCodes},
	{rounds / 20, drawingCallsWithCodes, drawingCallsWithoutCodes},
	{rounds / 40, witnessCallsWithCodes, witnessCallsWithoutCodes},
}

// spaceCallsWithCodes are calls of all functions of chapter 1 that return a code.
func spaceCallsWithCodes(m maker) []call {
	p, q, r, turns := m.point(), m.point(), m.point(), m.turns()
	x, y := m.plane(), m.plane()
	text := impl.NumberText(m.number())
	line := text + " " + impl.NumberText(m.number()) + " " + impl.NumberText(m.plain())
	return []call{
		{"UnitOf", func() []any { return two(impl.UnitOf(p)) }},
		{"PlaneThrough", func() []any { return two(impl.PlaneThrough(p, q, r)) }},
		{"PlaneAt", func() []any { return two(impl.PlaneAt(p, q)) }},
		{"SideOf", func() []any { return two(impl.SideOf(x, p)) }},
		{"FootOf", func() []any { return two(impl.FootOf(x, p)) }},
		{"MirrorPoint", func() []any { return two(impl.MirrorPoint(x, p)) }},
		{"MeetLine", func() []any { return three(impl.MeetLine(x, p, q)) }},
		{"MeetPlanes", func() []any { return three(impl.MeetPlanes(x, y)) }},
		{"TurnAround", func() []any { return two(impl.TurnAround(p, turns, q)) }},
		{"ReadNumber", func() []any { return two(impl.ReadNumber(text)) }},
		{"ReadPoint", func() []any { return two(impl.ReadPoint(line)) }},
	}
}

// spaceCallsWithoutCodes are calls of all the others.
func spaceCallsWithoutCodes(m maker) []call {
	p, q, a, b := m.anyPoint(), m.anyPoint(), m.number(), m.number()
	x, y := m.plane(), m.plane()
	code := int64(m.Uint64())
	return []call{
		{"CodeName", func() []any { return all(impl.CodeName(code), impl.CodeName(code%12)) }},
		{"SameNumber", func() []any { return all(impl.SameNumber(a, b), impl.SameNumber(a, a)) }},
		{"IsPlain", func() []any { return all(impl.IsPlain(a)) }},
		{"ValidPoint", func() []any { return all(impl.ValidPoint(p)) }},
		{"SamePoint", func() []any { return all(impl.SamePoint(p, q), impl.SamePoint(p, p)) }},
		{"AddPoints", func() []any { return all(impl.AddPoints(p, q)) }},
		{"SubPoints", func() []any { return all(impl.SubPoints(p, q)) }},
		{"ScalePoint", func() []any { return all(impl.ScalePoint(p, a)) }},
		{"DotOf", func() []any { return all(impl.DotOf(p, q)) }},
		{"CrossOf", func() []any { return all(impl.CrossOf(p, q)) }},
		{"LengthOf", func() []any { return all(impl.LengthOf(p)) }},
		{"DistanceBetween", func() []any { return all(impl.DistanceBetween(p, q)) }},
		{"BetweenPoints", func() []any { return all(impl.BetweenPoints(p, q, a)) }},
		{"ValidPlane", func() []any { return all(impl.ValidPlane(x)) }},
		{"SamePlane", func() []any { return all(impl.SamePlane(x, y), impl.SamePlane(x, x)) }},
		{"SineOf", func() []any { return all(impl.SineOf(a)) }},
		{"NumberText", func() []any { return all(impl.NumberText(a)) }},
		{"PointText", func() []any { return all(impl.PointText(p)) }},
	}
}

// resultsOf makes the calls, and fails if a function panics, by the panic.
func resultsOf(calls []call) []string {
	results := make([]string, len(calls))
	for i, c := range calls {
		results[i] = row(c.run()...)
	}
	return results
}

func TestP1EqualResultsForEqualArguments(t *testing.T) {
	for _, chapter := range chapters {
		m, again := newMaker(), newMaker()
		for range chapter.rounds / 4 {
			calls := append(chapter.withCodes(m), chapter.withoutCodes(m)...)
			first := resultsOf(calls)
			others := append(chapter.withCodes(again), chapter.withoutCodes(again)...)
			for i, result := range resultsOf(others) {
				if result != first[i] {
					t.Fatalf("%s: got %s, and then %s", calls[i].name, first[i], result)
				}
			}
			for i, result := range resultsOf(calls) {
				if result != first[i] {
					t.Fatalf("%s: got %s, and later %s", calls[i].name, first[i], result)
				}
			}
		}
	}
}

func TestP1OtherResultsAreZeroWithAnError(t *testing.T) {
	for _, chapter := range chapters {
		m := newMaker()
		found := map[string]int{}
		for range chapter.rounds {
			for _, c := range chapter.withCodes(m) {
				if hasError(t, c) {
					found[c.name]++
				}
			}
		}
		for _, c := range chapter.withCodes(m) {
			if found[c.name] == 0 && c.name != "ReadNumber" {
				t.Errorf("%s: there was no error", c.name)
			}
		}
	}
}

// hasError makes a call and reports whether there is an error; it fails if the other results are not as they should be.
func hasError(t *testing.T, c call) bool {
	t.Helper()
	results := c.run()
	last := len(results) - 1
	code := results[last].(int64)
	if code == impl.OK {
		checkFinite(t, c.name, results[:last])
		return false
	}
	for _, result := range results[:last] {
		// A list that is nil is the same as one that is empty.
		if row(result) != row(reflect.Zero(reflect.TypeOf(result)).Interface()) {
			t.Fatalf("%s: got %s with the code %d", c.name, row(result), code)
		}
	}
	return true
}

// checkFinite fails if a number is not finite, or a plane, a camera, a solid, a map or a scene not valid; numbers that are read may be any.
func checkFinite(t *testing.T, name string, results []any) {
	t.Helper()
	text := row(results...)
	good := name == "ReadNumber" || !strings.Contains(text, "Inf") && !strings.Contains(text, "nan")
	for _, result := range results {
		switch x := result.(type) {
		case impl.Plane:
			good = good && impl.ValidPlane(x)
		case impl.Camera:
			good = good && impl.ValidCamera(x)
		case impl.Solid:
			good = good && impl.ValidSolid(x)
		case impl.Map:
			good = good && impl.ValidMap(x)
		case impl.Scene:
			good = good && impl.ValidScene(x)
		}
	}
	if !good {
		t.Fatalf("%s: got %s with OK", name, text)
	}
}

// near reports whether a difference is small beside a size.
func near(difference, size float32) bool {
	return math.Abs(float64(difference)) <= 0.00001*(1+math.Abs(float64(size)))
}

func TestP2UnitsHaveTheLengthOne(t *testing.T) {
	m := newMaker()
	for range rounds {
		p := m.validPoint()
		unit, code := impl.UnitOf(p)
		if code != impl.OK {
			continue
		}
		length := impl.LengthOf(p)
		if !near(impl.LengthOf(unit)-1, 0) || !near(impl.DistanceBetween(impl.ScalePoint(unit, length), p), length) {
			t.Fatalf("UnitOf %s: got %s", row(p), row(unit))
		}
	}
}

func TestP2PlanesHaveTheirPoints(t *testing.T) {
	m := newMaker()
	for range rounds {
		a, b, c := m.pointWithin(10), m.pointWithin(10), m.pointWithin(10)
		x, code := impl.PlaneThrough(a, b, c)
		// Points that are nearly in a line tell little of their plane.
		if code != impl.OK || impl.LengthOf(impl.CrossOf(impl.SubPoints(b, a), impl.SubPoints(c, a))) < 1 {
			continue
		}
		for _, p := range []impl.Point{a, b, c} {
			side, code := impl.SideOf(x, p)
			if code != impl.OK || math.Abs(float64(side)) > 0.001 {
				t.Fatalf("PlaneThrough %s: SideOf %s is %s", row(a, b, c), row(p), row(side, code))
			}
		}
	}
}

func TestP2FeetLieInTheirPlanes(t *testing.T) {
	m := newMaker()
	for range rounds {
		x, p := m.validPlane(), m.validPoint()
		size := impl.LengthOf(p) + x.D*x.D/(1+float32(math.Abs(float64(x.D))))
		side, _ := impl.SideOf(x, p)
		foot, code := impl.FootOf(x, p)
		if code != impl.OK || !near(impl.DotOf(x.N, foot)-x.D, size) || !near(impl.DistanceBetween(foot, p)-float32(math.Abs(float64(side))), size) {
			t.Fatalf("FootOf %s: got %s", row(x, p), row(foot, code))
		}
		mirror, code := impl.MirrorPoint(x, p)
		if code != impl.OK || !near(impl.DotOf(x.N, mirror)-x.D+side, size) {
			t.Fatalf("MirrorPoint %s: got %s", row(x, p), row(mirror, code))
		}
		if !impl.ValidPoint(mirror) {
			continue
		}
		back, code := impl.MirrorPoint(x, mirror)
		if code != impl.OK || !near(impl.DistanceBetween(back, p), size) {
			t.Fatalf("MirrorPoint twice %s: got %s", row(x, p), row(back, code))
		}
	}
}

func TestP2LinesAndPlanesMeet(t *testing.T) {
	m := newMaker()
	for range rounds {
		x, y := m.validPlane(), m.validPlane()
		x.D, y.D = m.within(10), m.within(10)
		a, b := m.pointWithin(10), m.pointWithin(10)
		at, share, code := impl.MeetLine(x, a, b)
		if code == impl.OK && (!near(impl.DotOf(x.N, at)-x.D, 10*(1+impl.LengthOf(at))) || !impl.SamePoint(at, impl.BetweenPoints(a, b, share))) {
			t.Fatalf("MeetLine %s: got %s", row(x, a, b), row(at, share))
		}
		on, way, code := impl.MeetPlanes(x, y)
		// Planes that are nearly the same meet where it can hardly be told.
		if code != impl.OK || impl.LengthOf(impl.CrossOf(x.N, y.N)) < 0.1 {
			continue
		}
		for _, s := range []float32{0, 1, -5} {
			p := impl.AddPoints(on, impl.ScalePoint(way, s))
			if !near(impl.DotOf(x.N, p)-x.D, 100) || !near(impl.DotOf(y.N, p)-y.D, 100) {
				t.Fatalf("MeetPlanes %s: got %s", row(x, y), row(on, way))
			}
		}
	}
}

// someTurns makes a number of turns that TurnAround takes, often a small one.
func (m maker) someTurns() float32 {
	return m.within([]float32{1, 4, 1000}[m.Intn(3)])
}

// fewerBits tells how much less exact many turns are: they have few bits for what is left of a turn.
func fewerBits(turns float32) float32 { return 1 + float32(math.Abs(float64(turns))) }

func TestP3TurningKeepsLengths(t *testing.T) {
	m := newMaker()
	for range rounds {
		axis, turns, p := m.validPoint(), m.someTurns(), m.validPoint()
		got, code := impl.TurnAround(axis, turns, p)
		if code != impl.OK {
			continue
		}
		size := impl.LengthOf(p) * fewerBits(turns)
		unit, _ := impl.UnitOf(axis)
		if !near(impl.LengthOf(got)-impl.LengthOf(p), size) || !near(impl.DotOf(unit, got)-impl.DotOf(unit, p), size) {
			t.Fatalf("TurnAround %s: got %s", row(axis, turns, p), row(got))
		}
	}
}

func TestP3OppositeTurnsUndoEachOther(t *testing.T) {
	m := newMaker()
	for range rounds {
		axis, turns, p := m.validPoint(), m.someTurns(), m.pointWithin(1000)
		there, code := impl.TurnAround(axis, turns, p)
		if code != impl.OK || !impl.ValidPoint(there) {
			continue
		}
		size := impl.LengthOf(p) * fewerBits(turns)
		back, code := impl.TurnAround(axis, -turns, there)
		if code != impl.OK || !near(impl.DistanceBetween(back, p), size) {
			t.Fatalf("TurnAround %s: got %s, and back %s", row(axis, turns, p), row(there), row(back, code))
		}
	}
}
