package tests

import (
	"testing"

	"loop.example/g01249/impl"
)

func TestMoveSolid(t *testing.T) {
	for _, by := range []impl.Point{{1, -2, 3}, {0, 0, 0}, {minusZero, minusZero, minusZero}, {100, 0, 0.5}} {
		for _, s := range []impl.Solid{cube(), tetrahedron(), angle(), flat(minusZero), octagons()} {
			same(t, "MoveSolid "+row(s, by), all(impl.MoveSolid(s, by)), all(moved(s, by), codeOK))
		}
	}
	// It would not be valid: it is too far away, or its corners fall together.
	const most = impl.MaxSize
	none := impl.Solid{}
	s := cube()
	same(t, "as far as it may be", all(impl.MoveSolid(s, impl.Point{0, most - 1, 0})), all(moved(s, impl.Point{0, most - 1, 0}), codeOK))
	same(t, "too far", all(impl.MoveSolid(s, impl.Point{most, 0, 0})), all(none, codeState))
	same(t, "fallen together", all(impl.MoveSolid(scaled(s, everywhere(1.0/64)), impl.Point{most / 2, 0, 0})), all(none, codeState))
	same(t, "no plane", all(impl.MoveSolid(tetrahedron(), everywhere(most-1))), all(none, codeState))
}

func TestTurnSolid(t *testing.T) {
	up := impl.Point{0, 0, 2}
	got, code := impl.TurnSolid(example, up, 0.25)
	want := []impl.Point{{0, 0, 0}, {0, 1, 0}, {-2, 0, 0}, {-2, 1, 0}, {0, 0, 3}, {0, 1, 3}, {-2, 0, 3}, {-2, 1, 3}}
	for i, p := range want {
		if code != codeOK || !isNear(p, got.Corners[i], 0) {
			t.Errorf("TurnSolid: got %s, want nearly %s", row(got, code), row(want))
		}
	}
	for _, s := range []impl.Solid{cube(), angle(), flat(0), octagons()} {
		for _, turns := range []float32{0, 0.3, -0.125, 1000, -1000} {
			same(t, "TurnSolid "+row(s, turns), all(impl.TurnSolid(s, up, turns)), all(turned(s, up, turns), codeOK))
		}
	}
	none, nothing := impl.Solid{}, impl.Point{}
	for _, turns := range []float32{above(1000), below(-1000), infinite, -infinite, nan} {
		same(t, "TurnSolid "+row(turns), all(impl.TurnSolid(example, up, turns)), all(none, codeRange))
		// ErrRange is ahead of ErrState.
		same(t, "TurnSolid "+row(turns), all(impl.TurnSolid(example, nothing, turns)), all(none, codeRange))
	}
	same(t, "no axis", all(impl.TurnSolid(example, nothing, 1)), all(none, codeState))
	same(t, "a short axis", all(impl.TurnSolid(example, impl.Point{0, 0, below(limit)}, 0.5)), all(none, codeState))
	same(t, "an axis", all(impl.TurnSolid(example, impl.Point{0, 0, limit}, 0.5)), all(turned(example, up, 0.5), codeOK))
	// It would be too far away.
	far := moved(cube(), impl.Point{impl.MaxSize - 1, impl.MaxSize - 1, 0})
	same(t, "too far", all(impl.TurnSolid(far, up, 0.125)), all(none, codeState))
}

func level(d float32) impl.Plane   { return impl.Plane{N: impl.Point{0, 0, 1}, D: d} }
func beneath(d float32) impl.Plane { return impl.Plane{N: impl.Point{0, 0, -1}, D: -d} }

func TestCutSolid(t *testing.T) {
	// The lower part of a cube: the new corners are on the edges 0 4, 3 7, 1 5 and 2 6.
	same(t, "the lower part", all(impl.CutSolid(cube(), level(0.25))), all(impl.Solid{
		Corners: []impl.Point{
			{0, 0, 0}, {1, 0, 0}, {0, 1, 0}, {1, 1, 0},
			{0, 0, 0.25}, {1, 1, 0.25}, {1, 0, 0.25}, {0, 1, 0.25},
		},
		Faces: [][]int16{{0, 4, 7, 2}, {1, 3, 5, 6}, {0, 1, 6, 4}, {2, 7, 5, 3}, {0, 2, 3, 1}, {4, 6, 5, 7}},
	}, codeOK))
	// The upper part: loops begin with new corners, where the old ones ahead are gone.
	same(t, "the upper part", all(impl.CutSolid(cube(), beneath(0.25))), all(impl.Solid{
		Corners: []impl.Point{
			{0, 0, 1}, {1, 0, 1}, {0, 1, 1}, {1, 1, 1},
			{0, 0, 0.25}, {1, 1, 0.25}, {1, 0, 0.25}, {0, 1, 0.25},
		},
		Faces: [][]int16{{4, 0, 2, 7}, {5, 3, 1, 6}, {6, 1, 0, 4}, {7, 2, 3, 5}, {0, 1, 3, 2}, {4, 7, 5, 6}},
	}, codeOK))
	// A tip: three faces are left, and the new one. The edges are 0 2, 0 1, 1 3, 1 2, 2 3 and 0 3.
	tip := impl.Plane{N: impl.Point{-1, 0, 0}, D: -0.5}
	same(t, "a tip", all(impl.CutSolid(tetrahedron(), tip)), all(impl.Solid{
		Corners: []impl.Point{{1, 0, 0}, {0.5, 0, 0}, {0.5, 0, 0.5}, {0.5, 0.5, 0}},
		Faces:   [][]int16{{3, 0, 1}, {1, 0, 2}, {0, 3, 2}, {1, 2, 3}},
	}, codeOK))
	same(t, "without a tip", all(impl.CutSolid(tetrahedron(), impl.Plane{N: impl.Point{1, 0, 0}, D: 0.5})), all(impl.Solid{
		Corners: []impl.Point{{0, 0, 0}, {0, 1, 0}, {0, 0, 1}, {0.5, 0, 0}, {0.5, 0, 0.5}, {0.5, 0.5, 0}},
		Faces:   [][]int16{{0, 1, 5, 3}, {0, 3, 4, 2}, {5, 1, 2, 4}, {1, 0, 2}, {3, 5, 4}},
	}, codeOK))
}

func TestCutSolidSharesBeginAtTheLesserIndex(t *testing.T) {
	m := newMaker()
	different := 0
	for range rounds / 40 {
		s := m.convexSolid()
		x := m.planeThrough(s)
		cut, code := impl.CutSolid(s, x)
		if code != impl.OK || impl.SameSolid(cut, s) {
			continue
		}
		kept := 0
		for _, p := range s.Corners {
			if sideOf(x, p) < 0 {
				same(t, "a corner that is left", all(cut.Corners[kept]), all(p))
				kept++
			}
		}
		for _, e := range edgesOf(s) {
			p, q := sideOf(x, s.Corners[e[0]]), sideOf(x, s.Corners[e[1]])
			if p < 0 == (q < 0) {
				continue
			}
			want := wantBetween(s.Corners[e[0]], s.Corners[e[1]], quotient(p, difference(p, q)))
			same(t, "a new corner", all(cut.Corners[kept]), all(want))
			if !impl.SamePoint(want, wantBetween(s.Corners[e[1]], s.Corners[e[0]], quotient(q, difference(q, p)))) {
				different++
			}
			kept++
		}
		same(t, "corners", all(int64(len(cut.Corners))), all(int64(kept)))
	}
	if different < 100 {
		t.Errorf("only %d corners tell both ways apart", different)
	}
}

func TestCutSolidNearACorner(t *testing.T) {
	const little = 1.0 / 1024
	for _, c := range []struct {
		d    float32
		code int64
	}{
		{0, codeState}, {minusZero, codeState}, {little, codeState}, {-little, codeState}, {little / 2, codeState},
		{above(little), codeOK}, {below(-little), codeNotFound}, {-5, codeNotFound},
		{1, codeState}, {1 + little, codeState}, {1 - little, codeState}, {1 - 2*little, codeOK}, {above(1 + little), codeOK}, {5, codeOK},
	} {
		got, code := impl.CutSolid(cube(), level(c.d))
		same(t, "CutSolid "+row(c.d), all(code), all(c.code))
		switch {
		case c.code != codeOK:
			same(t, "CutSolid "+row(c.d), all(got), all(impl.Solid{}))
		case c.d > 1:
			same(t, "CutSolid "+row(c.d), all(got), all(cube()))
		default:
			same(t, "CutSolid "+row(c.d), all(got.Corners[4][2], got.Corners[7][2]), all(c.d, c.d))
		}
	}
	// ErrState is ahead of ErrNotFound: one corner is near, and all are outside.
	s := tetrahedron()
	same(t, "a corner near", all(impl.CutSolid(s, impl.Plane{N: impl.Point{-1, 0, 0}, D: -1})), all(impl.Solid{}, codeState))
	same(t, "a corner near outside", all(impl.CutSolid(s, beneath(1.0/2048))), all(impl.Solid{}, codeState))
	same(t, "all are outside", all(impl.CutSolid(s, beneath(1.5))), all(impl.Solid{}, codeNotFound))
	same(t, "all are left", all(impl.CutSolid(s, level(1.5))), all(s, codeOK))
}

func TestCutSolidThatWouldNotBeValid(t *testing.T) {
	// What is left of a slender tip is a face without a plane.
	slender := scaled(tetrahedron(), impl.Point{0.5, 0.5, 1})
	same(t, "a small tip", all(impl.CutSolid(slender, beneath(1-0.0011))), all(impl.Solid{}, codeState))
	same(t, "a larger tip", all(impl.CutSolid(slender, beneath(1-0.0022)))[1:], all(codeOK))
	// What is small counts as convex, so that it may fall apart: into two loops,
	// or into two solids of which one is left whole, and there are no new corners at all.
	both := tiny(notched())
	arms := impl.Plane{N: impl.Point{0, -1, 0}, D: -0.009}
	same(t, "two arms", all(impl.CutSolid(both, arms)), all(impl.Solid{}, codeState))
	arms.N[1], arms.D = 1, 0.009
	same(t, "without two arms", all(impl.CutSolid(both, arms)), all(impl.Solid{}, codeState))
	pair := tiny(twins(tetrahedron(), moved(tetrahedron(), impl.Point{0, 0, 1.5})))
	same(t, "one of two", all(impl.CutSolid(pair, level(0.0075))), all(impl.Solid{}, codeState))
	same(t, "both", all(impl.CutSolid(pair, level(0.5))), all(pair, codeOK))
}

// fromTip is a plane square to the way to a corner of a solid around 0, 0, 0, so far from 0, 0, 0.
func fromTip(s impl.Solid, tip int, d float32) impl.Plane {
	n, _ := wantUnitOfAny(s.Corners[tip])
	return impl.Plane{N: n, D: d}
}

func TestCutSolidLimits(t *testing.T) {
	for name, c := range map[string]struct {
		s    impl.Solid
		x    impl.Plane
		code int64
		// How many corners and faces there are, and in the longest loop.
		corners, faces, loop int
	}{
		// A tip with three edges is replaced by three corners.
		"24 corners": {withoutTips(7), tipOf(7), codeOK, 24, 14, 8},
		"25 corners": {withMiddle(withoutTips(7), 5, 0), tipOf(7), codeLimit, 25, 14, 9},
		"26 corners": {octagons(), fromTip(octagons(), 0, 1.48), codeLimit, 26, 15, 9},
		"16 faces":   {topless(bipyramid(7), 7), fromTip(bipyramid(7), 8, 0.5), codeOK, 21, 16, 7},
		"17 faces":   {bipyramid(8), fromTip(bipyramid(8), 8, 0.5), codeLimit, 17, 17, 8},
		// A loop with a corner less and two new ones.
		"loop of 10": {prism(9), fromTip(prism(9), 0, 1.3), codeOK, 20, 12, 10},
		"loop of 11": {prism(10), fromTip(prism(10), 0, 1.3), codeLimit, 22, 13, 11},
		// The new face is the longest one.
		"new loop of 10": {antiprism(5), level(0.25), codeOK, 15, 12, 10},
		"new loop of 12": {antiprism(6), level(0.25), codeLimit, 18, 14, 12},
	} {
		part := wantPart(c.s, sidesOf(c.s, c.x))
		longest := 0
		for _, loop := range part.Faces {
			longest = max(longest, len(loop))
		}
		if len(part.Corners) != c.corners || len(part.Faces) != c.faces || longest != c.loop {
			t.Errorf("%s: there are %d corners, %d faces, and %d corners in a loop", name, len(part.Corners), len(part.Faces), longest)
		}
		if c.code != codeOK {
			part = impl.Solid{}
		}
		same(t, name, all(impl.CutSolid(c.s, c.x)), all(part, c.code))
	}
}

func TestCutSolidErrLimitIsAheadOfErrState(t *testing.T) {
	// The part would have too many corners in a loop, and be so narrow that it has faces without a plane.
	s := scaled(prism(10), impl.Point{1, 1, 0.000001})
	if !wantValid(s) {
		t.Fatal("the solid is not valid")
	}
	x := fromTip(prism(10), 0, 0)
	x.N[2] = 0
	x.N, _ = wantUnitOfAny(x.N)
	x.D = 0.998
	part := wantPart(s, sidesOf(s, x))
	if wantEvenFaces(part) || len(part.Faces[0]) != 11 {
		t.Fatalf("the part is %s", row(part))
	}
	same(t, "CutSolid", all(impl.CutSolid(s, x)), all(impl.Solid{}, codeLimit))
	// Too many new corners, which go round twice.
	both := twins(prism(6), moved(prism(6), impl.Point{3, 0, 0}))
	both = scaled(both, everywhere(0.003))
	same(t, "CutSolid of two", all(impl.CutSolid(both, level(0))), all(impl.Solid{}, codeLimit))
}

func sidesOf(s impl.Solid, x impl.Plane) []float32 {
	var sides []float32
	for _, p := range s.Corners {
		sides = append(sides, sideOf(x, p))
	}
	return sides
}

// topless is a solid without a tip.
func topless(s impl.Solid, tip int) impl.Solid {
	s, _ = wantCut(s, fromTip(s, tip, 0.5))
	return s
}
