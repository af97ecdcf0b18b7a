package tests

import (
	"math"
	"slices"
	"strings"
	"sync"
	"testing"

	"loop.example/g01249/impl"
)

// photoCallsWithCodes are calls of all functions of chapter 5 that return a code.
func photoCallsWithCodes(m maker) []call {
	p, q, four, other, n := m.photo(), m.photo(), m.four(), m.four(), int64(m.Intn(12)-1)
	s, from := m.spotFor(p), m.spotsFor(p)
	to := m.goalsFor(p, from)
	c, o, u, v := m.camera(), m.point(), m.way(), m.way()
	line, known := m.spotsOfLine(), m.within(10)
	l := m.line()
	k := m.lineBeside(l)
	if m.Intn(8) == 0 {
		known = m.number()
	}
	text := mapText(p)
	if m.Intn(4) == 0 {
		text = text[:m.Intn(len(text)+1)]
	}
	return []call{
		{"ScaledMap", func() []any { return all(impl.ScaledMap(p)) }},
		{"ApplyMap", func() []any { return all(impl.ApplyMap(p, s)) }},
		{"ApplyMany", func() []any { return all(impl.ApplyMany(p, from)) }},
		{"ComposeMaps", func() []any { return all(impl.ComposeMaps(p, q)) }},
		{"InvertMap", func() []any { return all(impl.InvertMap(p)) }},
		{"MapFromFour", func() []any { return all(impl.MapFromFour(four, other)) }},
		{"MapOfPlane", func() []any { return all(impl.MapOfPlane(c, o, u, v)) }},
		{"LineThrough", func() []any { return all(impl.LineThrough(line[0], line[1])) }},
		{"MeetSpots", func() []any { return all(impl.MeetSpots(l, k)) }},
		{"CrossRatio", func() []any { return all(impl.CrossRatio(line[0], line[1], line[2], line[3])) }},
		{"MeasureFrom", func() []any { return all(impl.MeasureFrom(line[0], line[1], line[2], line[3], known)) }},
		{"StretchAt", func() []any { return all(impl.StretchAt(p, s)) }},
		{"GridOf", func() []any { return all(impl.GridOf(p, n)) }},
		{"WorstOff", func() []any { return all(impl.WorstOff(p, from, to)) }},
		{"ReadMap", func() []any { return all(impl.ReadMap(text)) }},
	}
}

// photoCallsWithoutCodes are calls of all the others.
func photoCallsWithoutCodes(m maker) []call {
	p, q, four := m.photo(), m.photo(), m.four()
	return []call{
		{"ValidMap", func() []any { return all(impl.ValidMap(p)) }},
		{"SameMap", func() []any { return all(impl.SameMap(p, q), impl.SameMap(p, p)) }},
		{"DetOf", func() []any { return all(impl.DetOf(p)) }},
		{"TurnsLeft", func() []any { return all(impl.TurnsLeft(four[0], four[1], four[2])) }},
		{"IsConvexFour", func() []any { return all(impl.IsConvexFour(four)) }},
		{"AreaOfFour", func() []any { return all(impl.AreaOfFour(four)) }},
		{"MapText", func() []any { return all(impl.MapText(p)) }},
	}
}

func TestP1PhotographsLeaveTheirArguments(t *testing.T) {
	t.Parallel()
	m := newMaker()
	found := 0
	for range rounds / 20 {
		p := m.gentlePhoto()
		n := 1 + m.Intn(100)
		from, to := make([]impl.Spot, n+2), make([]impl.Spot, n+2)
		for i := range from {
			from[i], to[i] = m.spotWithin(1), m.spotWithin(1)
		}
		state := func() string { return row(from[:n+2], to[:n+2]) }
		before := state()
		// There is room behind the spots, in which there is something already.
		from, to = from[:n:n+2], to[:n:n+2]
		for _, c := range []call{
			{"ApplyMany", func() []any { return all(impl.ApplyMany(p, from)) }},
			{"ApplyMany of none", func() []any { return all(impl.ApplyMany(p, from[:0])) }},
			{"GridOf", func() []any { return all(impl.GridOf(p, 3)) }},
			{"WorstOff", func() []any { return all(impl.WorstOff(p, from, to)) }},
			{"WorstOff of the same list", func() []any { return all(impl.WorstOff(p, from, from)) }},
		} {
			first, again := c.run(), c.run()
			want := row(again...)
			if again[len(again)-1] == codeOK {
				found++
			}
			for _, result := range first {
				scribble(result)
			}
			if after := state(); after != before {
				t.Fatalf("%s: the spots were %s, and are %s", c.name, before, after)
			}
			if row(again...) != want {
				t.Fatalf("%s: two results share memory", c.name)
			}
		}
	}
	if found < rounds/8 {
		t.Errorf("only %d calls had a result", found)
	}
}

// Results depend on arguments alone, not on what has been called before with equal ones that are not the same.
func TestP1WhatHasBeenCalledBeforeDoesNotMatter(t *testing.T) {
	t.Parallel()
	m := newMaker()
	others := 0
	for range rounds {
		p := m.photoOfKind(5)
		q := p
		for i, a := range q {
			if a == 0 && m.Intn(2) == 0 {
				q[i] = opposite(a)
			}
		}
		for _, n := range []impl.Map{p, q, p} {
			same(t, "InvertMap "+row(n), all(impl.InvertMap(n)), two(wantInverted(n)))
			same(t, "ScaledMap "+row(n), all(impl.ScaledMap(n)), two(wantScaledMap(n)))
			same(t, "ComposeMaps "+row(n), all(impl.ComposeMaps(n, p)), two(wantComposed(n, p)))
			same(t, "DetOf "+row(n), all(impl.DetOf(n)), all(wantDet(n)))
		}
		if t.Failed() {
			return
		}
		back, code := wantInverted(p)
		other, otherCode := wantInverted(q)
		if code == impl.OK && otherCode == impl.OK && row(back) != row(other) {
			others++
		}
	}
	if others < 100 {
		t.Errorf("only %d maps that are equal, but not the same, have other inverses", others)
	}
}

func TestP1PhotographsAtTheSameTime(t *testing.T) {
	m := newMaker()
	var calls []call
	for range 200 {
		calls = append(append(calls, photoCallsWithCodes(m)...), photoCallsWithoutCodes(m)...)
	}
	want := resultsOf(calls)
	var running sync.WaitGroup
	for range 8 {
		running.Go(func() {
			if !slices.Equal(resultsOf(calls), want) {
				t.Error("there were other results")
			}
		})
	}
	running.Wait()
}

func TestP1HugeListsOfSpots(t *testing.T) {
	const many = 490000
	from, to := make([]impl.Spot, many), make([]impl.Spot, many)
	p := impl.Map{1, 0, 0, 0, 1, 0, 0, 0, 1}
	same(t, "ApplyMany", all(impl.ApplyMany(p, from)), all([]impl.Spot{}, codeLimit))
	same(t, "WorstOff", all(impl.WorstOff(p, from, to)), all(float32(0), int64(0), codeLimit))
	same(t, "WorstOff of other lengths", all(impl.WorstOff(p, from, to[1:])), all(float32(0), int64(0), codeRange))
	from[many-1][1] = nan
	same(t, "ApplyMany of NaN", all(impl.ApplyMany(p, from)), all([]impl.Spot{}, codeInvalid))
	same(t, "WorstOff of NaN", all(impl.WorstOff(p, from, to[1:])), all(float32(0), int64(0), codeInvalid))
	same(t, "WorstOff to NaN", all(impl.WorstOff(p, to, from)), all(float32(0), int64(0), codeInvalid))
	same(t, "ReadMap", all(impl.ReadMap(strings.Repeat("00000000 ", 110000))), all(impl.Map{}, codeSyntax))
}

// gap is how far two spots are from each other.
func gap(a, b impl.Spot) float32 {
	return float32(math.Hypot(float64(a[0])-float64(b[0]), float64(a[1])-float64(b[1])))
}

// leastTurn is the least size of TurnsLeft of three spots of a four.
func leastTurn(four [4]impl.Spot) float64 {
	least := math.Inf(1)
	for i := range four {
		for k := range 2 {
			least = min(least, math.Abs(float64(impl.TurnsLeft(four[i], four[(i+1)%4], four[(i+2+k)%4]))))
		}
	}
	return least
}

// greatestOf is the greatest size of a number of a map.
func greatestOf(m impl.Map) float64 { return math.Abs(float64(m[wantGreatest(m)])) }

func TestP10MapsOfFourSpotsSendThem(t *testing.T) {
	t.Parallel()
	m := newMaker()
	found, mirrored := 0, 0
	for range rounds {
		from, to := m.convexFour(), m.convexFour()
		if !impl.IsConvexFour(from) || !impl.IsConvexFour(to) || leastTurn(from) < 0.2 || leastTurn(to) < 0.2 {
			continue
		}
		p, code := impl.MapFromFour(from, to)
		if code != impl.OK || greatestOf(p) > 50 {
			continue
		}
		found++
		args := row(from, to)
		worst, index, code := impl.WorstOff(p, from[:], to[:])
		if code != impl.OK || worst > 0.001 {
			t.Fatalf("MapFromFour %s: got %s, which is off by %s", args, row(p), row(worst, index, code))
		}
		for i, s := range from {
			if sent, code := impl.ApplyMap(p, s); code != impl.OK || gap(sent, to[i]) > 0.001 {
				t.Fatalf("MapFromFour %s: got %s, which sends %s to %s", args, row(p), row(s), row(sent, code))
			}
		}
		// A map keeps the side to which ways turn, or changes it everywhere.
		mirrors := impl.AreaOfFour(from) > 0 != (impl.AreaOfFour(to) > 0)
		if mirrors {
			mirrored++
		}
		for _, s := range from {
			if stretch, code := impl.StretchAt(p, s); code != impl.OK || stretch < 0 != mirrors {
				t.Fatalf("StretchAt %s: got %s", row(p, s), row(stretch, code))
			}
		}
	}
	if found < rounds/4 || mirrored < rounds/20 {
		t.Errorf("there were only %d maps, %d of which mirror", found, mirrored)
	}
}

func TestP10EveryConvexFourHasAMap(t *testing.T) {
	t.Parallel()
	m := newMaker()
	for range rounds {
		from, to := m.convexFour(), m.squareFour()
		if leastTurn(from) < 0.2 {
			continue
		}
		back, code := impl.MapFromFour(to, from)
		if worst, _, worstCode := impl.WorstOff(back, to[:], from[:]); code != impl.OK || worstCode != impl.OK || worst > 0.001 {
			t.Fatalf("MapFromFour %s: got %s, which is off by %v", row(to, from), row(back, code), worst)
		}
	}
}

// sendsWell reports whether spots have a w with a map that is neither nearly 0 nor great.
func sendsWell(p impl.Map, list ...impl.Spot) bool {
	for _, s := range list {
		if w := wantSum(p[6], p[7], p[8], s); math.Abs(float64(w)) < 0.3 || w > 5 {
			return false
		}
	}
	return true
}

func TestP10MapsThatAreMade(t *testing.T) {
	t.Parallel()
	m := newMaker()
	found := 0
	for range rounds {
		p, q, s := m.gentlePhoto(), m.gentlePhoto(), m.spotWithin(2)
		back, code := impl.InvertMap(p)
		if code != impl.OK || math.Abs(float64(wantDet(p))) < 0.1 || !sendsWell(p, s) {
			continue
		}
		sent, _ := impl.ApplyMap(p, s)
		again, code := impl.ApplyMap(back, sent)
		if code != impl.OK || gap(again, s) > 0.001 {
			t.Fatalf("InvertMap %s: got %s, which sends %s to %s", row(p), row(back), row(sent), row(again, code))
		}
		found++
		scaled, code := impl.ScaledMap(p)
		other, sentCode := impl.ApplyMap(scaled, s)
		if code != impl.OK || sentCode != impl.OK || gap(other, sent) > 0.001 || scaled[wantGreatest(p)] != 1 {
			t.Fatalf("ScaledMap %s: got %s, which sends %s to %s", row(p), row(scaled), row(s), row(other))
		}
		both, code := impl.ComposeMaps(q, p)
		if code != impl.OK || !sendsWell(q, sent) {
			continue
		}
		end, _ := impl.ApplyMap(q, sent)
		straight, code := impl.ApplyMap(both, s)
		if code != impl.OK || gap(end, straight) > 0.001*(1+gap(end, impl.Spot{})) {
			t.Fatalf("ComposeMaps %s: got %s, which sends %s to %s, not to %s", row(q, p), row(both), row(s), row(straight), row(end))
		}
		// The determinants and the stretches of both are multiplied.
		first, _ := impl.StretchAt(p, s)
		second, _ := impl.StretchAt(q, sent)
		together, code := impl.StretchAt(both, s)
		if code != impl.OK || math.Abs(float64(together-first*second)) > 0.001*(1+math.Abs(float64(together))) {
			t.Fatalf("StretchAt %s: got %v, not %v times %v", row(both, s), together, first, second)
		}
	}
	if found < rounds/10 {
		t.Errorf("there were only %d maps", found)
	}
}

func TestP10SmallAreasAreStretched(t *testing.T) {
	t.Parallel()
	m := newMaker()
	found := 0
	for range rounds {
		p, s := m.gentlePhoto(), m.spotWithin(2)
		const by = 1.0 / 32
		four := [4]impl.Spot{{s[0] - by, s[1] - by}, {s[0] + by, s[1] - by}, {s[0] + by, s[1] + by}, {s[0] - by, s[1] + by}}
		sent, code := impl.ApplyMany(p, four[:])
		if code != impl.OK || !sendsWell(p, four[:]...) {
			continue
		}
		found++
		area := float64(impl.AreaOfFour([4]impl.Spot(sent))) / float64(impl.AreaOfFour(four))
		stretch, code := impl.StretchAt(p, s)
		if code != impl.OK || math.Abs(area-float64(stretch)) > 0.1+0.1*math.Abs(area) {
			t.Fatalf("StretchAt %s: got %s, but an area becomes %v times as great", row(p, s), row(stretch, code), area)
		}
	}
	if found < rounds/10 {
		t.Errorf("there were only %d maps", found)
	}
}

func TestP11CrossRatiosStay(t *testing.T) {
	t.Parallel()
	m := newMaker()
	found := 0
	for range rounds {
		p, from, way := m.gentlePhoto(), m.spotWithin(1), m.spotWithin(1)
		if m.Intn(2) == 0 {
			four, other := m.convexFour(), m.convexFour()
			p, _ = impl.MapFromFour(four, other)
		}
		if gap(way, impl.Spot{}) < 0.3 || !impl.ValidMap(p) || math.Abs(float64(wantDet(p))) < 0.1 || greatestOf(p) > 20 {
			continue
		}
		var line [4]impl.Spot
		for i, at := range m.Perm(6)[:4] {
			share := 0.4*(float32(at)-2.5) + m.within(0.1)
			line[i] = impl.Spot{from[0] + share*way[0], from[1] + share*way[1]}
		}
		sent, code := impl.ApplyMany(p, line[:])
		if code != impl.OK || !sendsWell(p, line[:]...) || min(gap(sent[0], sent[3]), gap(sent[1], sent[2])) < 0.02 {
			continue
		}
		before, code := impl.CrossRatio(line[0], line[1], line[2], line[3])
		after, afterCode := impl.CrossRatio(sent[0], sent[1], sent[2], sent[3])
		if code != impl.OK || afterCode != impl.OK || math.Abs(float64(before-after)) > 0.01*(1+math.Abs(float64(before))) {
			t.Fatalf("CrossRatio %s: got %s, and sent by %s %s", row(line), row(before, code), row(p), row(after, afterCode))
		}
		found++
	}
	if found < rounds/20 {
		t.Errorf("there were only %d lines", found)
	}
}

func TestP11LinesStayLines(t *testing.T) {
	t.Parallel()
	m := newMaker()
	met := 0
	for range rounds {
		a, b, c, d := m.spotWithin(3), m.spotWithin(3), m.spotWithin(3), m.spotWithin(3)
		l, code := impl.LineThrough(a, b)
		k, otherCode := impl.LineThrough(c, d)
		if code != impl.OK || otherCode != impl.OK {
			continue
		}
		on := func(l impl.Point, s impl.Spot) bool {
			return math.Abs(float64(l[0]*s[0]+l[1]*s[1]+l[2])) < 0.0001*(1+float64(gap(s, impl.Spot{})))
		}
		for _, share := range []float32{0, 1, 0.5, -1} {
			if s := wantBetweenSpots(a, b, share); !on(l, s) {
				t.Fatalf("LineThrough %s: got %s, on which %s does not lie", row(a, b), row(l), row(s))
			}
		}
		if w := l[0]*k[1] - l[1]*k[0]; math.Abs(float64(w)) < 0.5 {
			continue
		}
		s, code := impl.MeetSpots(l, k)
		if code != impl.OK || !on(l, s) || !on(k, s) {
			t.Fatalf("MeetSpots %s: got %s", row(l, k), row(s, code))
		}
		met++
	}
	if met < rounds/10 {
		t.Errorf("only %d lines met", met)
	}
}

func TestP11DistancesAreMeasured(t *testing.T) {
	t.Parallel()
	m := newMaker()
	for range rounds {
		a, way := m.spotWithin(3), m.spotWithin(2)
		if gap(way, impl.Spot{}) < 0.3 {
			continue
		}
		// What is at the distance t on the line is seen at the share t / (t + by) of the way to far.
		by, known, distance := 0.5+2*m.Float32(), 0.5+3*m.Float32(), 0.2+5*m.Float32()
		at := func(t float32) impl.Spot {
			return wantBetweenSpots(a, impl.Spot{a[0] + way[0], a[1] + way[1]}, t/(t+by))
		}
		far := impl.Spot{a[0] + way[0], a[1] + way[1]}
		got, code := impl.MeasureFrom(a, at(known), far, at(distance), known)
		if code != impl.OK || math.Abs(float64(got-distance)) > 0.002*float64(1+distance) {
			t.Fatalf("MeasureFrom %s: got %s, want %v", row(a, at(known), far, at(distance), known), row(got, code), distance)
		}
	}
}

func TestP12MapsOfPlanesSendToWhatIsSeen(t *testing.T) {
	t.Parallel()
	m := newMaker()
	found := 0
	for range rounds {
		c, o, a, b := m.ordinaryCamera(), m.pointWithin(5), m.pointWithin(2), m.pointWithin(2)
		p, code := impl.MapOfPlane(c, o, a, b)
		f, _ := impl.FrameOf(c)
		across := impl.CrossOf(a, b)
		// From nearly within the plane little is seen of it.
		if impl.LengthOf(across) < 0.2 || math.Abs(float64(impl.DotOf(across, impl.SubPoints(o, c.Eye)))) < 0.5 {
			continue
		}
		if code != impl.OK || !near(p[wantGreatest(p)]-1, 0) {
			t.Fatalf("MapOfPlane %s: got %s", row(c, o, a, b), row(p, code))
		}
		for range 4 {
			s := m.spotWithin(2)
			at := impl.AddPoints(impl.AddPoints(o, impl.ScalePoint(a, s[0])), impl.ScalePoint(b, s[1]))
			want, depth, code := impl.ProjectPoint(c, at)
			if code != impl.OK || depth < 0.5 || impl.DotOf(f.Ahead, impl.SubPoints(at, c.Eye)) < 0.5 {
				continue
			}
			found++
			got, code := impl.ApplyMap(p, s)
			if code != impl.OK || gap(got, want) > 0.001*(1+gap(want, impl.Spot{})) {
				t.Fatalf("MapOfPlane %s: got %s, which sends %s to %s, not to %s", row(c, o, a, b), row(p), row(s), row(got, code), row(want))
			}
		}
	}
	if found < rounds/4 {
		t.Errorf("only %d points were seen", found)
	}
}

func TestP12PhotographsAreStraightened(t *testing.T) {
	t.Parallel()
	m := newMaker()
	found := 0
	for range rounds / 4 {
		c, o, a, b := m.ordinaryCamera(), m.pointWithin(5), m.pointWithin(2), m.pointWithin(2)
		corners := [4]impl.Spot{{0, 0}, {1, 0}, {1, 1}, {0, 1}}
		var seen [4]impl.Spot
		good := true
		for i, s := range corners {
			at := impl.AddPoints(impl.AddPoints(o, impl.ScalePoint(a, s[0])), impl.ScalePoint(b, s[1]))
			var depth float32
			var code int64
			seen[i], depth, code = impl.ProjectPoint(c, at)
			good = good && code == impl.OK && depth > 0.5
		}
		if !good || leastTurn(seen) < 0.05 || !impl.IsConvexFour(seen) {
			continue
		}
		found++
		// The map of four spots of a photograph, and the map of the plane, are the same, nearly, but for the scale.
		p, code := impl.MapFromFour(corners, seen)
		q, otherCode := impl.MapOfPlane(c, o, a, b)
		if code != impl.OK || otherCode != impl.OK {
			t.Fatalf("MapFromFour %s: got the code %d, and MapOfPlane %d", row(corners, seen), code, otherCode)
		}
		for _, s := range []impl.Spot{{0.5, 0.5}, {0.25, 0.75}, {0.1, 0.1}, {1, 0.5}} {
			one, _ := impl.ApplyMap(p, s)
			other, _ := impl.ApplyMap(q, s)
			if gap(one, other) > 0.002*(1+gap(one, impl.Spot{})) {
				t.Fatalf("MapFromFour %s: sends %s to %s, not to %s", row(corners, seen), row(s), row(one), row(other))
			}
		}
	}
	if found < rounds/80 {
		t.Errorf("there were only %d photographs", found)
	}
}
