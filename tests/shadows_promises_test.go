package tests

import (
	"math"
	"runtime"
	"slices"
	"sync"
	"testing"
	"time"

	"loop.example/g01249/impl"
)

// shadowCallsWithCodes are calls of all functions of chapter 4 that return a code.
func shadowCallsWithCodes(m maker) []call {
	l, lamps, x, s, list := m.lamp(), m.lamps(), m.groundPlane(), m.solid(), m.fewSolids()
	p, at, loop := m.placeBeside(list), m.place(), m.places()
	a, b, c, n := m.point(), m.pointWithin(3), m.pointWithin(3), m.pointWithin(1)
	solid, face, parts := int64(m.Intn(3)), m.anyFace(), m.parts()
	if m.Intn(4) == 0 {
		p, n = m.point(), m.point()
	}
	text := lampText(l)
	if m.Intn(4) == 0 {
		text = text[:m.Intn(len(text)+1)]
	}
	return []call{
		{"TowardsLamp", func() []any { return all(impl.TowardsLamp(l, p)) }},
		{"ShadowOfPoint", func() []any { return all(impl.ShadowOfPoint(l, x, p)) }},
		{"ShadowOfFace", func() []any { return all(impl.ShadowOfFace(l, x, s, face)) }},
		{"BasisOf", func() []any { return all(impl.BasisOf(x)) }},
		{"PlaceOf", func() []any { return all(impl.PlaceOf(x, p)) }},
		{"FromPlane", func() []any { return all(impl.FromPlane(x, at)) }},
		{"HullOf", func() []any { return all(impl.HullOf(loop)) }},
		{"AreaOfLoop", func() []any { return all(impl.AreaOfLoop(loop)) }},
		{"ShadowOutline", func() []any { return all(impl.ShadowOutline(l, x, s)) }},
		{"ShadowArea", func() []any { return all(impl.ShadowArea(l, x, s)) }},
		{"IsLit", func() []any { return all(impl.IsLit(l, list, p)) }},
		{"WhatHides", func() []any { return all(impl.WhatHides(l, list, p)) }},
		{"LightAt", func() []any { return all(impl.LightAt(lamps, list, p, n)) }},
		{"FaceLight", func() []any { return all(impl.FaceLight(lamps, list, solid, face)) }},
		{"LitShare", func() []any { return all(impl.LitShare(l, list, p, b, c, parts)) }},
		{"BrightestPart", func() []any { return all(impl.BrightestPart(lamps, list, a, b, c, n, parts)) }},
		{"ReadLamp", func() []any { return all(impl.ReadLamp(text)) }},
	}
}

// shadowCallsWithoutCodes are calls of all the others.
func shadowCallsWithoutCodes(m maker) []call {
	l, other := m.lamp(), m.lamp()
	return []call{
		{"ValidLamp", func() []any { return all(impl.ValidLamp(l)) }},
		{"SameLamp", func() []any { return all(impl.SameLamp(l, other), impl.SameLamp(l, l)) }},
		{"LampText", func() []any { return all(impl.LampText(l)) }},
	}
}

func TestP1ShadowsLeaveTheirArguments(t *testing.T) {
	t.Parallel()
	m := newMaker()
	for range rounds / 20 {
		s, other := withRoom(m.solid()), withRoom(m.convexSolid())
		list := []impl.Solid{withRoom(m.squareSolid()), other, s}[:2]
		lamps := []impl.Lamp{m.validLamp(), m.validLamp(), m.lamp(), m.lamp()}[:2]
		places := append(m.places(), place{7, 7}, place{8, 8})
		places = places[: len(places)-2 : cap(places)]
		x, p, n := m.groundPlane(), m.placeBeside(list), m.pointWithin(1)
		below := level(-20)
		high := impl.Lamp{At: impl.Point{m.within(5), m.within(5), 20}, Strong: 1}
		state := func() string {
			return whole(s) + whole(other) + whole(list[0]) + row(list[:3], lamps[:4], places[:len(places)+2])
		}
		before := state()
		for _, c := range []call{
			{"ShadowOfFace", func() []any { return all(impl.ShadowOfFace(lamps[0], x, s, 1)) }},
			{"ShadowOfFace", func() []any { return all(impl.ShadowOfFace(high, below, other, 1)) }},
			{"HullOf", func() []any { return all(impl.HullOf(places)) }},
			{"AreaOfLoop", func() []any { return all(impl.AreaOfLoop(places)) }},
			{"ShadowOutline", func() []any { return all(impl.ShadowOutline(lamps[0], x, s)) }},
			{"ShadowOutline", func() []any { return all(impl.ShadowOutline(high, below, other)) }},
			{"ShadowArea", func() []any { return all(impl.ShadowArea(high, below, other)) }},
			{"IsLit", func() []any { return all(impl.IsLit(lamps[0], list, p)) }},
			{"WhatHides", func() []any { return all(impl.WhatHides(lamps[0], list, p)) }},
			{"LightAt", func() []any { return all(impl.LightAt(lamps, list, p, n)) }},
			{"FaceLight", func() []any { return all(impl.FaceLight(lamps, list, 1, 1)) }},
			{"LitShare", func() []any { return all(impl.LitShare(lamps[0], list, p, n, n, 3)) }},
			{"BrightestPart", func() []any { return all(impl.BrightestPart(lamps, list, p, n, n, n, 3)) }},
		} {
			first, again := c.run(), c.run()
			want := row(again...)
			for _, result := range first {
				scribble(result)
			}
			if after := state(); after != before {
				t.Fatalf("%s: the arguments were %s, and are %s", c.name, before, after)
			}
			if row(again...) != want {
				t.Fatalf("%s: two results share memory", c.name)
			}
		}
	}
}

func TestP1HugeListsOfLampsAndPlaces(t *testing.T) {
	const many = 190000
	up := impl.Point{0, 0, 1}
	lamps := slices.Repeat([]impl.Lamp{exampleLamp}, many)
	solids := slices.Repeat([]impl.Solid{tetrahedron()}, 20000)
	list := make([]place, 400000)
	check := func(name string, want int64) {
		t.Helper()
		_, light := impl.LightAt(lamps, nil, impl.Point{}, up)
		_, face := impl.FaceLight(lamps, nil, 0, 0)
		_, _, best := impl.BrightestPart(lamps, nil, up, up, up, up, 1)
		_, lit := impl.IsLit(exampleLamp, solids, impl.Point{})
		_, hides := impl.WhatHides(exampleLamp, solids, impl.Point{})
		_, share := impl.LitShare(exampleLamp, solids, up, up, up, 1)
		same(t, name, all(light, face, best, lit, hides, share), all(want, want, want, want, want, want))
		_, hull := impl.HullOf(list)
		_, area := impl.AreaOfLoop(list)
		same(t, name, all(hull, area), all(codeRange, codeRange))
	}
	check("many", codeRange)
	lamps[many-1].Strong, solids[len(solids)-1], list[len(list)-1][1] = -1, impl.Solid{}, nan
	check("many, and one is not valid", codeInvalid)
	same(t, "many nothings", all(impl.IsLit(exampleLamp, make([]impl.Solid, 900000), impl.Point{})), all(false, codeInvalid))
}

func TestP1AllGoroutinesHaveEnded(t *testing.T) {
	before := runtime.NumGoroutine()
	list := slices.Repeat([]impl.Solid{slab(1, 2)}, 6)
	lamps := slices.Repeat([]impl.Lamp{exampleLamp, exampleSun}, 3)
	for range 50 {
		impl.WhatHides(exampleLamp, list, impl.Point{})
		impl.IsLit(exampleLamp, list, impl.Point{50, 50, 50})
		impl.BrightestPart(lamps, list, impl.Point{}, impl.Point{3, 0, 0}, impl.Point{0, 3, 0}, impl.Point{0, 0, 1}, 4)
	}
	// One that has told its answer may take a moment until it is gone.
	for range 100 {
		if runtime.NumGoroutine() <= before {
			return
		}
		time.Sleep(10 * time.Millisecond)
	}
	t.Errorf("there were %d goroutines, and are %d", before, runtime.NumGoroutine())
}

func TestP1CallsAtTheSameTime(t *testing.T) {
	list := []impl.Solid{slab(5, 6), slab(1, 2), octagons(), slab(-3, -2), slab(2, 3), slab(1, 2)}
	lamps := []impl.Lamp{exampleLamp, exampleSun, lampAt(3, 3, 3)}
	run := func() string {
		share, _ := impl.LitShare(exampleLamp, list, impl.Point{-3, -3, 0}, impl.Point{3, 0, 0}, impl.Point{0, 3, 0}, 8)
		p, light, _ := impl.BrightestPart(lamps, list, impl.Point{-3, -3, 0}, impl.Point{3, 0, 0}, impl.Point{0, 3, 0}, impl.Point{0, 0, 1}, 8)
		return row(share, p, light)
	}
	want := run()
	var calls sync.WaitGroup
	for range 16 {
		calls.Go(func() {
			if got := run(); got != want {
				t.Errorf("got %s, want %s", got, want)
			}
		})
	}
	calls.Wait()
}

// sizeOf is a size beside which roundings of points are small.
func sizeOf(points ...impl.Point) float32 {
	size := float32(1)
	for _, p := range points {
		size = max(size, impl.LengthOf(p))
	}
	return size
}

func TestP8ShadowsLieInTheirPlanes(t *testing.T) {
	t.Parallel()
	m := newMaker()
	found := 0
	for range rounds {
		l, x, p := m.validLamp(), m.validPlane(), m.pointWithin(10)
		l.At, x.D = m.pointWithin(10), m.within(10)
		if !impl.ValidLamp(l) {
			continue
		}
		shadow, code := impl.ShadowOfPoint(l, x, p)
		way, _ := impl.TowardsLamp(l, p)
		unit, unitCode := impl.UnitOf(way)
		// Where the way goes nearly along the plane it can hardly be told where they meet.
		if code != impl.OK || unitCode != impl.OK || math.Abs(float64(impl.DotOf(x.N, unit))) < 0.1 {
			continue
		}
		found++
		size := sizeOf(shadow, p, l.At)
		args := row(l, x, p)
		if !near(impl.DotOf(x.N, shadow)-x.D, 10*size) {
			t.Fatalf("ShadowOfPoint %s: got %s, which is not in the plane", args, row(shadow))
		}
		// It is on the line of the lamp and the point, on the side away from the lamp.
		from := impl.SubPoints(shadow, p)
		aside := impl.LengthOf(impl.CrossOf(from, unit))
		if !near(aside, 10*size) || impl.DotOf(from, unit) > 0.0001*size {
			t.Fatalf("ShadowOfPoint %s: got %s, which is not on the line", args, row(shadow))
		}
		// The side of the point and that of the lamp are on the same side of the plane, or the plane goes through the point.
		side, _ := impl.SideOf(x, p)
		if float64(side)*float64(impl.DotOf(x.N, way)) < -0.001 {
			t.Fatalf("ShadowOfPoint %s: got %s, but the plane is not behind the point", args, row(shadow))
		}
	}
	if found < rounds/10 {
		t.Errorf("only %d shadows were found", found)
	}
}

func TestP8ShadowsOfFacesAreThoseOfTheirCorners(t *testing.T) {
	t.Parallel()
	m := newMaker()
	found := 0
	for range rounds / 20 {
		s := m.convexSolid()
		l, x := impl.Lamp{At: impl.Point{m.within(4), m.within(4), 15}, Sun: m.Intn(2) == 0}, level(-12)
		for face, loop := range s.Faces {
			shadows, code := impl.ShadowOfFace(l, x, s, int64(face))
			if code != impl.OK || len(shadows) != len(loop) {
				t.Fatalf("ShadowOfFace %s: got %s", row(l, x, s), row(shadows, code))
			}
			for i, corner := range loop {
				found++
				same(t, "ShadowOfFace "+row(l, x, s), all(shadows[i], code), all(impl.ShadowOfPoint(l, x, s.Corners[corner])))
			}
		}
		if t.Failed() {
			return
		}
	}
	if found < 1000 {
		t.Errorf("there were only %d shadows", found)
	}
}

func TestP8PlacesAreThoseOfTheirPoints(t *testing.T) {
	t.Parallel()
	m := newMaker()
	for range rounds {
		x, p := m.validPlane(), m.pointWithin(100)
		x.D = m.within(100)
		u, v, code := impl.BasisOf(x)
		if code != impl.OK || !near(impl.LengthOf(u)-1, 0) || !near(impl.LengthOf(v)-1, 0) ||
			!near(impl.DotOf(u, v), 0) || !near(impl.DotOf(u, x.N), 0) || !near(impl.DotOf(v, x.N), 0) {
			t.Fatalf("BasisOf %s: got %s", row(x), row(u, v, code))
		}
		// Seen from where N looks, v is to the left of u.
		if !isNear(impl.CrossOf(u, v), x.N, 1) {
			t.Fatalf("BasisOf %s: got %s, which goes round the other way", row(x), row(u, v))
		}
		at, code := impl.PlaceOf(x, p)
		foot, _ := impl.FootOf(x, p)
		back, backCode := impl.FromPlane(x, at)
		if code != impl.OK || backCode != impl.OK || !isNear(back, foot, 500) {
			t.Fatalf("FromPlane %s: got %s, and the foot is %s", row(x, at), row(back, backCode), row(foot))
		}
		to := place{m.within(100), m.within(100)}
		q, code := impl.FromPlane(x, to)
		again, againCode := impl.PlaceOf(x, q)
		if code != impl.OK || againCode != impl.OK || !near(again[0]-to[0], 500) || !near(again[1]-to[1], 500) || !near(impl.DotOf(x.N, q)-x.D, 500) {
			t.Fatalf("PlaceOf %s: got %s, want nearly %s", row(x, q), row(again, againCode), row(to))
		}
	}
}

// leftOf tells how far to the left of the way from a to b a place is, times the length of the way.
func leftOf(a, b, c place) float64 {
	wide := func(k int, from, to place) float64 { return float64(to[k]) - float64(from[k]) }
	return wide(0, a, b)*wide(1, a, c) - wide(1, a, b)*wide(0, a, c)
}

// sizeOfPlaces is a size beside which roundings of places are small.
func sizeOfPlaces(list []place) float64 {
	size := 1.0
	for _, at := range list {
		size = max(size, math.Hypot(float64(at[0]), float64(at[1])))
	}
	return size
}

// checkLoop fails if a loop does not have all places to its left or on it, nearly, or does not go round once.
func checkLoop(t *testing.T, loop, list []place) {
	t.Helper()
	size := sizeOfPlaces(list)
	turns := 0.0
	for i, a := range loop {
		b, c := loop[(i+1)%len(loop)], loop[(i+2)%len(loop)]
		for _, at := range list {
			if leftOf(a, b, at) < -0.000001*size*size {
				t.Fatalf("the loop %s around %s has %s to its right", row(loop), row(list), row(at))
			}
		}
		if len(loop) > 2 {
			dot := (float64(b[0])-float64(a[0]))*(float64(c[0])-float64(b[0])) + (float64(b[1])-float64(a[1]))*(float64(c[1])-float64(b[1]))
			turns += math.Atan2(leftOf(a, b, c), dot)
		}
	}
	if len(loop) > 2 && math.Abs(turns-2*math.Pi) > 0.001 {
		t.Fatalf("the loop %s around %s does not go round once", row(loop), row(list))
	}
}

func TestP8LoopsHaveAllPlaces(t *testing.T) {
	t.Parallel()
	m := newMaker()
	for range rounds / 4 {
		list := m.places()
		hull, code := impl.HullOf(list)
		if code != impl.OK {
			continue
		}
		var loop []place
		for i, index := range hull {
			if slices.Contains(hull[:i], index) {
				t.Fatalf("HullOf %s: got %s", row(list), row(hull))
			}
			loop = append(loop, list[index])
		}
		checkLoop(t, loop, list)
		// It begins with the least place, and no other one is equal to it and stands before it.
		for i, at := range list {
			first := loop[0]
			if at[0] < first[0] || at[0] == first[0] && at[1] < first[1] || at == first && int64(i) < hull[0] {
				t.Fatalf("HullOf %s: got %s, but %d is before the first one", row(list), row(hull), i)
			}
		}
		area, code := impl.AreaOfLoop(loop)
		size := sizeOfPlaces(loop)
		if code != impl.OK || float64(area) < -0.000001*size*size {
			t.Fatalf("AreaOfLoop %s: got %s", row(loop), row(area, code))
		}
	}
}

func TestP8OutlinesHaveAllShadows(t *testing.T) {
	t.Parallel()
	m := newMaker()
	found := 0
	for range rounds / 10 {
		s := m.convexSolid()
		l := impl.Lamp{At: impl.Point{m.within(4), m.within(4), 15}, Sun: m.Intn(2) == 0}
		x, code := impl.PlaneAt(impl.Point{0, 0, -15}, impl.Point{m.within(0.3), m.within(0.3), 1})
		outline, outlineCode := impl.ShadowOutline(l, x, s)
		if code != impl.OK || outlineCode != impl.OK {
			continue
		}
		found++
		var list []place
		for _, corner := range s.Corners {
			shadow, _ := impl.ShadowOfPoint(l, x, corner)
			at, _ := impl.PlaceOf(x, shadow)
			list = append(list, at)
		}
		checkLoop(t, outline, list)
		// Each corner of the outline is one of the shadows.
		for _, at := range outline {
			if !slices.Contains(list, at) {
				t.Fatalf("ShadowOutline %s: got %s", row(l, x, s), row(outline))
			}
		}
		// The shadow is as large as those of the faces that look to the lamp are together.
		area, code := impl.ShadowArea(l, x, s)
		together := float32(0)
		for face := range s.Faces {
			shadows, _ := impl.ShadowOfFace(l, x, s, int64(face))
			var loop []place
			for _, p := range shadows {
				at, _ := impl.PlaceOf(x, p)
				loop = append(loop, at)
			}
			part, _ := impl.AreaOfLoop(loop)
			together += float32(math.Abs(float64(part))) / 2
		}
		if code != impl.OK || math.Abs(float64(area-together)) > 0.02*(1+float64(together)) {
			t.Fatalf("ShadowArea %s: got %s, and the faces have %v together", row(l, x, s), row(area, code), together)
		}
	}
	if found < rounds/50 {
		t.Errorf("only %d outlines were found", found)
	}
}

func TestP9LightOfSeveralLampsIsTheSum(t *testing.T) {
	t.Parallel()
	m := newMaker()
	found := 0
	for range rounds / 4 {
		lamps, list := m.lamps(), m.fewSolids()
		p, n := m.placeBeside(list), m.pointWithin(2)
		light, code := impl.LightAt(lamps, list, p, n)
		if code != impl.OK {
			continue
		}
		together, count := float32(0), 0
		for _, l := range lamps {
			part, code := impl.LightAt([]impl.Lamp{l}, list, p, n)
			lit, litCode := impl.IsLit(l, list, p)
			if code != impl.OK || litCode != impl.OK || part < 0 || part > 0 && !lit {
				t.Fatalf("LightAt %s: got %s", row(l, list, p, n), row(part, code, lit, litCode))
			}
			if part > 0 {
				count++
			}
			together += part
		}
		if count > 1 {
			found++
		}
		if !near(light-together, together) {
			t.Fatalf("LightAt %s: got %v, and one by one %v", row(lamps, list, p, n), light, together)
		}
		// Lamps in another order give as much, nearly; one that is twice as strong, twice as much.
		slices.Reverse(lamps)
		back, _ := impl.LightAt(lamps, list, p, n)
		for i := range lamps {
			lamps[i].Strong /= 2
		}
		half, _ := impl.LightAt(lamps, list, p, n)
		if !near(light-back, light) || !near(2*half-light, light) {
			t.Fatalf("LightAt %s: got %v, then %v, and %v", row(lamps, list, p, n), light, back, half)
		}
	}
	if found < 100 {
		t.Errorf("only %d points had light of several lamps", found)
	}
}

func TestP9LightOfFacesAndTriangles(t *testing.T) {
	t.Parallel()
	m := newMaker()
	found := 0
	for range rounds / 20 {
		lamps, list := m.lamps(), []impl.Solid{m.convexSolid(), m.convexSolid()}
		together := make([]float32, 2)
		face := int64(m.Intn(4))
		light, code := impl.FaceLight(lamps, list, 0, face)
		a, b, c, n := m.pointWithin(3), m.pointWithin(3), m.pointWithin(3), m.pointWithin(1)
		p, most, bestCode := impl.BrightestPart(lamps, list, a, b, c, n, 3)
		if code != impl.OK || bestCode != impl.OK {
			continue
		}
		for _, l := range lamps {
			part, _ := impl.FaceLight([]impl.Lamp{l}, list, 0, face)
			other, _ := impl.LightAt([]impl.Lamp{l}, list, p, n)
			together[0] += part
			together[1] += other
		}
		if most > 0 {
			found++
		}
		if !near(light-together[0], light) || !near(most-together[1], most) {
			t.Fatalf("FaceLight and BrightestPart %s: got %v and %v, and one by one %v", row(lamps, list, p, n), light, most, together)
		}
		// No other point of the triangle that is asked has more light.
		for _, q := range partsOf(a, b, c, 3) {
			if other, _ := impl.LightAt(lamps, list, q, n); other > most {
				t.Fatalf("BrightestPart %s: got %s with %v, but %s has %v", row(lamps, list, a, b, c, n), row(p), most, row(q), other)
			}
		}
	}
	if found < 100 {
		t.Errorf("only %d triangles had light", found)
	}
}

func TestWhatIsBehindAMiddleIsHidden(t *testing.T) {
	t.Parallel()
	m := newMaker()
	found := 0
	for range rounds / 20 {
		s := m.convexSolid()
		volume, _ := impl.VolumeOf(s)
		middle, _ := impl.MiddleOf(s)
		direction, code := impl.UnitOf(m.pointWithin(1))
		// A solid that is hardly there has hardly a middle.
		if code != impl.OK || volume < 0.05 {
			continue
		}
		found++
		// The point and the lamp are on both sides, out of reach of all corners.
		reach := float32(1)
		for _, p := range s.Corners {
			reach = max(reach, impl.DistanceBetween(p, middle))
		}
		p := impl.AddPoints(middle, impl.ScalePoint(direction, -1.5*reach-m.Float32()))
		for _, l := range []impl.Lamp{
			{At: impl.AddPoints(middle, impl.ScalePoint(direction, 1.5*reach+4*m.Float32()))},
			{At: impl.ScalePoint(direction, 0.5+m.Float32()), Sun: true},
		} {
			list := []impl.Solid{moved(s, impl.ScalePoint(direction, -100)), s}
			lit, code := impl.IsLit(l, list, p)
			same(t, "IsLit "+row(l, list, p), all(lit, code), all(false, codeOK))
			same(t, "WhatHides "+row(l, list, p), all(impl.WhatHides(l, list, p)), all(int64(1), codeOK))
			share, _ := impl.LitShare(l, list, p, p, p, 2)
			light, _ := impl.LightAt([]impl.Lamp{l}, list, p, direction)
			same(t, "no light "+row(l, list, p), all(share, light), all(float32(0), float32(0)))
			// Without the solid, or from the other side, it is lit.
			lit, code = impl.IsLit(l, list[:1], p)
			same(t, "IsLit without it "+row(l, list, p), all(lit, code), all(true, codeOK))
			q := impl.AddPoints(middle, impl.ScalePoint(direction, 1.25*reach))
			lit, code = impl.IsLit(l, list, q)
			same(t, "IsLit from the other side "+row(l, list, q), all(lit, code), all(true, codeOK))
		}
		if t.Failed() {
			return
		}
	}
	if found < 200 {
		t.Errorf("there were only %d solids", found)
	}
}
