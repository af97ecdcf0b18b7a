package tests

import (
	"testing"

	"loop.example/g01249/impl"
)

func TestMapsToTheLastBit(t *testing.T) {
	t.Parallel()
	m, found := newMaker(), codesFound{}
	valid := map[bool]int{}
	for range rounds {
		p, q := m.photo(), m.photo()
		args := row(p, q)
		valid[wantValidMap(p)]++
		same(t, "DetOf "+args, all(impl.DetOf(p)), all(wantDet(p)))
		same(t, "ValidMap "+args, all(impl.ValidMap(p)), all(wantValidMap(p)))
		found.compare(t, "ScaledMap", args, all(impl.ScaledMap(p)), two(wantScaledMap(p)))
		found.compare(t, "ComposeMaps", args, all(impl.ComposeMaps(p, q)), two(wantComposed(p, q)))
		found.compare(t, "InvertMap", args, all(impl.InvertMap(p)), two(wantInverted(p)))
		if t.Failed() {
			return
		}
	}
	if valid[true] < 100 || valid[false] < 100 {
		t.Errorf("there were %d valid maps, and %d that are not", valid[true], valid[false])
	}
	codes := []int64{codeOK, codeInvalid, codeState}
	found.check(t, map[string][]int64{"ScaledMap": codes, "ComposeMaps": codes, "InvertMap": codes})
}

func TestDeterminantsOfAnyNumbersToTheLastBit(t *testing.T) {
	t.Parallel()
	m := newMaker()
	zeros := map[bool]int{}
	for range rounds {
		var n impl.Map
		kind := m.Intn(3)
		for i := range n {
			switch kind {
			case 0:
				n[i] = m.number()
			case 1:
				n[i] = []float32{0, minusZero, 1, -1, 2}[m.Intn(5)]
			default:
				n[i] = []float32{0, minusZero, infinite, -infinite, nan, 1, greatest, tiniest}[m.Intn(8)]
			}
		}
		det := wantDet(n)
		if det == 0 {
			zeros[impl.SameNumber(det, 0)]++
		}
		same(t, "DetOf "+row(n), all(impl.DetOf(n)), all(det))
		same(t, "ValidMap "+row(n), all(impl.ValidMap(n)), all(wantValidMap(n)))
		if t.Failed() {
			return
		}
	}
	if zeros[true] < 100 || zeros[false] < 100 {
		t.Errorf("there were %d determinants 0, and %d that were -0", zeros[true], zeros[false])
	}
}

func TestWhereSpotsGoToTheLastBit(t *testing.T) {
	t.Parallel()
	m, found := newMaker(), codesFound{}
	for range rounds {
		p := m.photo()
		s, n := m.spotFor(p), int64(m.Intn(12)-1)
		args := row(p, s, n)
		found.compare(t, "ApplyMap", args, all(impl.ApplyMap(p, s)), two(wantApplyMap(p, s)))
		found.compare(t, "StretchAt", args, all(impl.StretchAt(p, s)), two(wantStretchAt(p, s)))
		found.compare(t, "GridOf", args, all(impl.GridOf(p, n)), two(wantGridOf(p, n)))
		if t.Failed() {
			return
		}
	}
	codes := []int64{codeOK, codeInvalid, codeState}
	found.check(t, map[string][]int64{"ApplyMap": codes, "StretchAt": codes, "GridOf": append(codes, codeRange)})
}

func TestListsOfSpotsToTheLastBit(t *testing.T) {
	t.Parallel()
	m, found := newMaker(), codesFound{}
	equal := 0
	for range rounds / 4 {
		p := m.photo()
		from := m.spotsFor(p)
		to := m.goalsFor(p, from)
		args := row(p, from, to)
		found.compare(t, "ApplyMany", args, all(impl.ApplyMany(p, from)), two(wantApplyMany(p, from)))
		worst, index, code := impl.WorstOff(p, from, to)
		found.compare(t, "WorstOff", args, all(worst, index, code), three(wantWorstOff(p, from, to)))
		if t.Failed() {
			return
		}
		if code == impl.OK && hasEqual(p, from, to, worst, index) {
			equal++
		}
	}
	if equal < 100 {
		t.Errorf("only %d times were several spots equally far off", equal)
	}
	codes := []int64{codeOK, codeInvalid, codeLimit, codeState}
	found.check(t, map[string][]int64{"ApplyMany": codes, "WorstOff": append(codes, codeRange)})
}

// goalsFor makes a list of where spots should go: mostly not far from where they go, many of them with equal distances.
func (m maker) goalsFor(p impl.Map, from []impl.Spot) []impl.Spot {
	to := make([]impl.Spot, len(from))
	kind := m.Intn(4)
	for i, s := range from {
		sent, code := wantSent(p, s)
		switch {
		case code != impl.OK || !plainSpots(sent) || kind == 0:
			to[i] = m.spotWithin(3)
		case kind == 1:
			to[i] = sent
		case kind == 2:
			to[i] = impl.Spot{sum(sent[0], m.within(0.5)), sum(sent[1], m.within(0.5))}
		default:
			// All are off by the same, or nearly.
			from[i] = from[0]
			to[i] = to[0]
			if m.Intn(3) == 0 {
				to[i] = m.spotWithin(3)
			}
		}
	}
	if m.Intn(10) == 0 {
		to = append(to, m.spot())
	}
	if len(to) > 0 && m.Intn(20) == 0 {
		to[m.Intn(len(to))][m.Intn(2)] = m.number()
	}
	return to
}

// hasEqual reports whether a spot behind the first one with the greatest distance has it as well.
func hasEqual(p impl.Map, from, to []impl.Spot, worst float32, index int64) bool {
	for i := int(index) + 1; i < len(from); i++ {
		if off, _, _ := wantWorstOff(p, from[i:i+1], to[i:i+1]); off == worst {
			return true
		}
	}
	return false
}

func TestMapsOfFourSpotsToTheLastBit(t *testing.T) {
	t.Parallel()
	m, found := newMaker(), codesFound{}
	changes, ties := 0, 0
	convex := map[bool]int{}
	for range rounds {
		from, to := m.four(), m.four()
		args := row(from, to)
		got, code := impl.MapFromFour(from, to)
		found.compare(t, "MapFromFour", args, all(got, code), two(wantMapFromFour(from, to)))
		same(t, "IsConvexFour "+args, all(impl.IsConvexFour(from)), all(wantConvexFour(from)))
		same(t, "AreaOfFour "+args, all(impl.AreaOfFour(from)), all(wantAreaOfFour(from)))
		same(t, "TurnsLeft "+args, all(impl.TurnsLeft(from[0], from[1], to[0])), all(wantTurnsLeft(from[0], from[1], to[0])))
		if t.Failed() {
			return
		}
		convex[wantConvexFour(from)]++
		if code == impl.OK {
			e := elimination{rows: wantRows(from, to)}
			for k := range 8 {
				e.wantStep(k)
			}
			changes, ties = changes+e.changes, ties+e.ties
		}
	}
	if changes < 1000 || ties < 1000 {
		t.Errorf("only %d times rows changed places, and %d times there were several of the greatest size", changes, ties)
	}
	if convex[true] < 1000 || convex[false] < 1000 {
		t.Errorf("there were %d fours that are convex, and %d that are not", convex[true], convex[false])
	}
	found.check(t, map[string][]int64{"MapFromFour": {codeOK, codeInvalid, codeState}})
}

func TestFoursOfAnySpotsToTheLastBit(t *testing.T) {
	t.Parallel()
	m := newMaker()
	for range rounds {
		var four [4]impl.Spot
		for i := range four {
			four[i] = impl.Spot{m.number(), m.number()}
			if m.Intn(2) == 0 {
				four[i] = impl.Spot{m.nothing(), m.nothing()}
			}
		}
		args := row(four)
		same(t, "IsConvexFour "+args, all(impl.IsConvexFour(four)), all(wantConvexFour(four)))
		same(t, "AreaOfFour "+args, all(impl.AreaOfFour(four)), all(wantAreaOfFour(four)))
		same(t, "TurnsLeft "+args, all(impl.TurnsLeft(four[0], four[1], four[2])), all(wantTurnsLeft(four[0], four[1], four[2])))
		if t.Failed() {
			return
		}
	}
}

func TestMapsOfPlanesToTheLastBit(t *testing.T) {
	t.Parallel()
	m, found := newMaker(), codesFound{}
	for range rounds {
		c, o, a, b := m.camera(), m.point(), m.way(), m.way()
		switch m.Intn(8) {
		case 0:
			// The eye lies in the plane.
			o = sums(c.Eye, wantScale(a, m.within(2)), wantScale(b, m.within(2)))
		case 1:
			b = wantScale(a, m.within(2))
		case 2:
			c = m.squareCamera()
		}
		found.compare(t, "MapOfPlane", row(c, o, a, b), all(impl.MapOfPlane(c, o, a, b)), two(wantMapOfPlane(c, o, a, b)))
		if t.Failed() {
			return
		}
	}
	found.check(t, map[string][]int64{"MapOfPlane": {codeOK, codeInvalid, codeState}})
}

func TestMeasuresToTheLastBit(t *testing.T) {
	t.Parallel()
	m, found := newMaker(), codesFound{}
	axes, equal := map[int]int{}, 0
	for range rounds {
		four, known := m.spotsOfLine(), m.within(10)
		switch m.Intn(8) {
		case 0:
			known = m.number()
		case 1:
			four = m.four()
		}
		a, b, c, d := four[0], four[1], four[2], four[3]
		args := row(four, known)
		found.compare(t, "LineThrough", args, all(impl.LineThrough(a, b)), two(wantLineThrough(a, b)))
		found.compare(t, "CrossRatio", args, all(impl.CrossRatio(a, b, c, d)), two(wantCrossRatio(a, b, c, d)))
		found.compare(t, "MeasureFrom", args, all(impl.MeasureFrom(a, b, c, d, known)), two(wantMeasureFrom(a, b, c, d, known)))
		l := m.line()
		k := m.lineBeside(l)
		found.compare(t, "MeetSpots", row(l, k), all(impl.MeetSpots(l, k)), two(wantMeetSpots(l, k)))
		if t.Failed() {
			return
		}
		axes[wantAxis(a, d)]++
		if x, y := difference(d[0], a[0]), difference(d[1], a[1]); x != 0 && (x == y || x == -y) {
			equal++
		}
	}
	if axes[0] < 1000 || axes[1] < 1000 || equal < 100 {
		t.Errorf("the coordinates were %v, and %d times equally far", axes, equal)
	}
	codes := []int64{codeOK, codeInvalid, codeState}
	found.check(t, map[string][]int64{"LineThrough": codes, "CrossRatio": codes, "MeasureFrom": codes, "MeetSpots": codes})
}

func TestMapTextsToTheLastBit(t *testing.T) {
	t.Parallel()
	m := newMaker()
	for range rounds {
		p := m.photo()
		text := mapText(p)
		if wantValidMap(p) {
			same(t, "MapText "+row(p), all(impl.MapText(p)), all(text))
			same(t, "ReadMap "+text, all(impl.ReadMap(text)), all(p, codeOK))
		} else {
			same(t, "MapText "+row(p), all(impl.MapText(p)), all(""))
			same(t, "ReadMap "+text, all(impl.ReadMap(text)), all(impl.Map{}, codeSyntax))
		}
		if t.Failed() {
			return
		}
	}
}

func TestSameMapToTheLastBit(t *testing.T) {
	t.Parallel()
	m := newMaker()
	for range rounds {
		p, q := m.photo(), m.photo()
		if m.Intn(2) == 0 {
			q = p
			q[m.Intn(9)] = []float32{m.number(), m.nothing(), nan, 0, minusZero}[m.Intn(5)]
		}
		same(t, "SameMap "+row(p, q), all(impl.SameMap(p, q), impl.SameMap(q, p), impl.SameMap(p, p)), all(row(p) == row(q), row(p) == row(q), true))
		if t.Failed() {
			return
		}
	}
}
