package tests

import (
	"testing"

	"loop.example/g01249/impl"
)

// anyFace makes the index of a face, or of a step; some are not there.
func (m maker) anyFace() int64 {
	if m.Intn(20) == 0 {
		return int64(m.Uint64())
	}
	return int64(m.Intn(12) - 1)
}

func TestSolidsToTheLastBit(t *testing.T) {
	t.Parallel()
	m, found := newMaker(), codesFound{}
	kinds := map[string]int{}
	for range rounds / 2 {
		s, face, edge := m.solid(), m.anyFace(), m.anyFace()
		args := row(s, face, edge)
		valid := wantValid(s)
		same(t, "ValidSolid "+args, all(impl.ValidSolid(s)), all(valid))
		found.compare(t, "FacePlane", args, all(impl.FacePlane(s, face)), two(wantPlaneOfFace(s, face)))
		found.compare(t, "EdgesOf", args, all(impl.EdgesOf(s)), two(wantEdges(s)))
		found.compare(t, "NeighbourOf", args, all(impl.NeighbourOf(s, face, edge)), two(wantNeighbour(s, face, edge)))
		found.compare(t, "VolumeOf", args, all(impl.VolumeOf(s)), two(wantVolume(s)))
		found.compare(t, "FaceArea", args, all(impl.FaceArea(s, face)), two(wantArea(s, face)))
		found.compare(t, "MiddleOf", args, all(impl.MiddleOf(s)), two(wantMiddle(s)))
		found.compare(t, "IsConvex", args, all(impl.IsConvex(s)), two(wantIsConvex(s)))
		if t.Failed() {
			return
		}
		kinds[row(valid, valid && wantConvex(s))]++
	}
	for _, kind := range []string{"false false", "true false", "true true"} {
		if kinds[kind] < 100 {
			t.Errorf("there were only %d solids of the kind %s", kinds[kind], kind)
		}
	}
	both := []int64{codeOK, codeInvalid}
	three := []int64{codeOK, codeInvalid, codeRange}
	found.check(t, map[string][]int64{
		"FacePlane": three, "EdgesOf": both, "NeighbourOf": three,
		"VolumeOf": both, "FaceArea": three, "MiddleOf": both, "IsConvex": both,
	})
}

func TestRoomsToTheLastBit(t *testing.T) {
	t.Parallel()
	m, found := newMaker(), codesFound{}
	for range rounds {
		low := m.point()
		high := sums(low, impl.Point{m.size(), m.size(), m.size()})
		switch m.Intn(6) {
		case 0:
			high = m.point()
		case 1:
			high[m.Intn(3)] = low[m.Intn(3)]
		case 2:
			high = sums(low, wantScale(impl.Point{m.size(), m.size(), m.size()}, 0.001))
		}
		args := row(low, high)
		room := wantRoom(low, high)
		found.compare(t, "BoxSolid", args, all(impl.BoxSolid(low, high)), two(wantMade(box(low, high), room)))
		found.compare(t, "TentSolid", args, all(impl.TentSolid(low, high)), two(wantMade(wantTent(low, high), room)))
		if t.Failed() {
			return
		}
	}
	codes := []int64{codeOK, codeInvalid, codeRange, codeState}
	found.check(t, map[string][]int64{"BoxSolid": codes, "TentSolid": codes})
}

func TestSeenSolidsToTheLastBit(t *testing.T) {
	t.Parallel()
	m, found := newMaker(), codesFound{}
	for range rounds / 2 {
		s := m.solid()
		eye, a, b := m.placeNear(s), m.placeNear(s), m.placeNear(s)
		if m.Intn(4) == 0 {
			b = numberwise(sum, a, m.axis())
		}
		args := row(s, eye, a, b)
		found.compare(t, "IsInside", args, all(impl.IsInside(s, eye)), two(wantInside(s, eye)))
		found.compare(t, "FacingFaces", args, all(impl.FacingFaces(s, eye)), two(wantFacing(s, eye)))
		found.compare(t, "OutlineOf", args, all(impl.OutlineOf(s, eye)), two(wantOutline(s, eye)))
		found.compare(t, "FirstHit", args, all(impl.FirstHit(s, a, b)), two(wantHit(s, a, b)))
		if t.Failed() {
			return
		}
	}
	codes := []int64{codeOK, codeInvalid, codeState}
	found.check(t, map[string][]int64{
		"IsInside": codes, "FacingFaces": codes, "OutlineOf": codes, "FirstHit": append(codes, codeNotFound),
	})
}

func TestMovedSolidsToTheLastBit(t *testing.T) {
	t.Parallel()
	m, found := newMaker(), codesFound{}
	for range rounds / 4 {
		s, by, axis, turns := m.solid(), m.point(), m.pointWithin(2), m.turns()
		if m.Intn(10) == 0 {
			axis = m.point()
		}
		args := row(s, by, axis, turns)
		found.compare(t, "MoveSolid", args, all(impl.MoveSolid(s, by)), two(wantMovedSolid(s, by)))
		found.compare(t, "TurnSolid", args, all(impl.TurnSolid(s, axis, turns)), two(wantTurnedSolid(s, axis, turns)))
		if t.Failed() {
			return
		}
	}
	found.check(t, map[string][]int64{
		"MoveSolid": {codeOK, codeInvalid, codeState},
		"TurnSolid": {codeOK, codeInvalid, codeRange, codeState},
	})
}

// cuttingPlane makes a plane that cuts a solid, mostly; some go along axes.
func (m maker) cuttingPlane(s impl.Solid) impl.Plane {
	if len(s.Corners) == 0 || m.Intn(10) == 0 {
		return m.plane()
	}
	if m.Intn(6) == 0 {
		return impl.Plane{N: m.axis(), D: float32(m.Intn(13)-6) / 2}
	}
	x := m.planeThrough(s)
	if m.Intn(8) == 0 {
		x.N = wantScale(x.N, 1+m.within(0.0015))
	}
	return x
}

func TestCutSolidsToTheLastBit(t *testing.T) {
	t.Parallel()
	m, found := newMaker(), codesFound{}
	apart, whole := 0, 0
	for range rounds {
		s := m.solid()
		x := m.cuttingPlane(s)
		cut, code := impl.CutSolid(s, x)
		found.compare(t, "CutSolid", row(s, x), all(cut, code), two(wantCut(s, x)))
		if t.Failed() {
			return
		}
		if code != impl.OK {
			continue
		}
		if impl.SameSolid(cut, s) {
			whole++
		} else {
			apart++
		}
	}
	if whole < 100 || apart < 100 {
		t.Errorf("only %d solids are cut, and %d left whole", apart, whole)
	}
	found.check(t, map[string][]int64{"CutSolid": {codeOK, codeInvalid, codeLimit, codeState, codeNotFound}})
}

// solids makes a list of solids, many of which lie beside each other.
func (m maker) solids() []impl.Solid {
	n := []int{1, 2, 3, 3, 4, 5, 6, 6, 7}[m.Intn(9)]
	list := make([]impl.Solid, n)
	for i := range list {
		switch m.Intn(30) {
		case 0:
			list[i] = m.solid()
		case 1, 2, 3:
			list[i] = m.squareSolid()
		default:
			list[i] = moved(m.convexSolid(), m.pointWithin(8))
		}
		if m.Intn(3) == 0 {
			list[i] = moved(m.squareSolid(), impl.Point{float32(3 * m.Intn(5)), float32(3 * m.Intn(5)), 0})
		}
	}
	return list
}

func TestOrdersToTheLastBit(t *testing.T) {
	t.Parallel()
	m, found := newMaker(), codesFound{}
	for range rounds / 4 {
		list, eye := m.solids(), m.pointWithin(12)
		if m.Intn(10) == 0 {
			eye = m.point()
		}
		s, other := list[0], list[len(list)-1]
		args := row(list, eye)
		found.compare(t, "DrawnFirst", args, all(impl.DrawnFirst(s, other, eye)), two(wantDrawnFirst(s, other, eye)))
		found.compare(t, "OrderSolids", args, all(impl.OrderSolids(list, eye)), two(wantOrderSolids(list, eye)))
		if t.Failed() {
			return
		}
	}
	found.check(t, map[string][]int64{
		"DrawnFirst":  {codeOK, codeInvalid, codeState, codeNotFound},
		"OrderSolids": {codeOK, codeInvalid, codeRange, codeState, codeNotFound},
	})
}

func TestSolidTextsToTheLastBit(t *testing.T) {
	t.Parallel()
	m := newMaker()
	for range rounds / 4 {
		s := m.solid()
		text := textOf(s)
		if wantValid(s) {
			same(t, "SolidText "+row(s), all(impl.SolidText(s)), all(text))
			same(t, "ReadSolid "+text, all(impl.ReadSolid(text)), all(s, codeOK))
		} else {
			same(t, "SolidText "+row(s), all(impl.SolidText(s)), all(""))
			same(t, "ReadSolid "+text, all(impl.ReadSolid(text)), all(impl.Solid{}, codeSyntax))
		}
		if t.Failed() {
			return
		}
	}
}
