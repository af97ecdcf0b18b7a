package tests

import (
	"slices"
	"testing"

	"loop.example/g01249/impl"
)

// altered returns a copy of a solid in which something has been changed.
func altered(s impl.Solid, change func(s *impl.Solid)) impl.Solid {
	s = scaled(s, impl.Point{1, 1, 1})
	change(&s)
	return s
}

// flat has four faces in one plane, two of them from above: it is valid, and has no volume.
func flat(z float32) impl.Solid {
	return impl.Solid{
		Corners: []impl.Point{{0, 0, z}, {1, 0, z}, {1, 1, z}, {0, 1, z}},
		Faces:   [][]int16{{0, 1, 2}, {0, 2, 3}, {0, 3, 1}, {1, 3, 2}},
	}
}

// withoutTip cuts a tip off as CutSolid does, whatever the limits are.
func withoutTip(s impl.Solid, tip int) impl.Solid {
	sides := make([]float32, len(s.Corners))
	for i := range sides {
		sides[i] = -1
	}
	sides[tip] = 1
	return wantPart(s, sides)
}

// withMiddle adds a corner in the middle of a step of a face. Both loops end with it,
// so that their first three corners are not in a line.
func withMiddle(s impl.Solid, face, edge int) impl.Solid {
	return altered(s, func(s *impl.Solid) {
		loop, n := s.Faces[face], int16(len(s.Corners))
		from, to := loop[edge], loop[(edge+1)%len(loop)]
		s.Corners = append(s.Corners, wantBetween(s.Corners[from], s.Corners[to], 0.5))
		for face, loop := range s.Faces {
			for i, corner := range loop {
				next := loop[(i+1)%len(loop)]
				if corner == from && next == to || corner == to && next == from {
					s.Faces[face] = append(slices.Concat(loop[i+1:], loop[:i+1]), n)
					break
				}
			}
		}
	})
}

// spike has a tip so far away, which is not one of the first three corners of a face.
func spike(far float32) impl.Solid {
	s := scaled(tetrahedron(), impl.Point{far, 1, 1})
	s = withoutTip(withoutTip(s, 3), 2)
	tip := slices.Index(s.Corners, impl.Point{far, 0, 0})
	for face, loop := range s.Faces {
		if i := slices.Index(loop, int16(tip)); i >= 0 {
			s.Faces[face] = slices.Concat(loop[i+1:], loop[:i+1])
		}
	}
	return s
}

// goodSolids are valid ones.
func goodSolids() map[string]impl.Solid {
	return map[string]impl.Solid{
		"tetrahedron": tetrahedron(),
		"cube":        cube(),
		"largest":     box(everywhere(-impl.MaxSize), everywhere(impl.MaxSize)),
		"smallest":    scaled(cube(), everywhere(1.0/1024)),
		// Not convex, in two parts, flat, or inside out.
		"angle":    angle(),
		"notched":  notched(),
		"twins":    twins(cube(), moved(cube(), impl.Point{5, 0, 0})),
		"inside":   twins(tetrahedron(), scaled(tetrahedron(), everywhere(0.5))),
		"flat":     flat(0),
		"flat -0":  flat(minusZero),
		"inverted": altered(cube(), func(s *impl.Solid) { reverseAll(s) }),
		// Just as many corners, faces, and corners in a loop as there may be.
		"corners": octagons(),
		"faces":   bipyramid(8),
		"loop":    prism(10),
		"spike":   spike(impl.MaxSize),
		// Subnormal numbers, and -0.
		"subnormal": altered(cube(), func(s *impl.Solid) { s.Corners[0] = impl.Point{tiniest, -tiniest, minusZero} }),
		// The fourth corner of the face 4 5 7 6 is just as far away as it may be.
		"above": altered(cube(), func(s *impl.Solid) { s.Corners[6][2] = 1 + 1.0/64 }),
		"below": altered(cube(), func(s *impl.Solid) { s.Corners[6][2] = 1 - 1.0/64 }),
		// A corner in the middle of an edge, in loops that do not begin there.
		"middle":     withMiddle(cube(), 2, 0),
		"23 corners": withMiddle(withoutTips(7), 5, 0),
	}
}

func reverseAll(s *impl.Solid) {
	for _, loop := range s.Faces {
		slices.Reverse(loop)
	}
}

// badSolids are solids that no function takes.
func badSolids() map[string]impl.Solid {
	list := map[string]impl.Solid{
		"nil":        {},
		"empty":      {Corners: []impl.Point{}, Faces: [][]int16{}},
		"no faces":   {Corners: cube().Corners},
		"no corners": {Faces: cube().Faces},
		"no loops":   {Corners: cube().Corners, Faces: make([][]int16, 6)},
		// Too few faces: one, two or three that go round.
		"one face":    {Corners: flat(0).Corners, Faces: [][]int16{{0, 1, 2, 3}}},
		"two faces":   {Corners: flat(0).Corners, Faces: [][]int16{{0, 1, 2, 3}, {3, 2, 1, 0}}},
		"three faces": {Corners: flat(0).Corners, Faces: [][]int16{{0, 1, 2}, {0, 2, 3}, {0, 3, 2, 1}}},
		"3 corners":   {Corners: flat(0).Corners[:3], Faces: [][]int16{{0, 1, 2}, {2, 1, 0}, {0, 1, 2}, {2, 1, 0}}},
		// Too many corners, faces, and corners in a loop: all else is right.
		"25 corners": withMiddle(octagons(), 0, 0),
		"26 corners": withoutTip(octagons(), 0),
		"17 faces":   withoutTip(bipyramid(8), 8),
		"loop of 11": prism(11),
		"loop of 12": prism(12),
		// A face of two corners has both steps; a corner stands twice in a loop that goes there and back.
		"loop of 2": altered(cube(), func(s *impl.Solid) { s.Faces = append(s.Faces, []int16{0, 7}) }),
		"loop of 0": altered(cube(), func(s *impl.Solid) { s.Faces = append(s.Faces, nil) }),
		"there and back": altered(tetrahedron(), func(s *impl.Solid) {
			s.Corners = append(s.Corners, impl.Point{0.25, 0.25, 0})
			s.Faces[0] = []int16{2, 1, 0, 4, 0}
		}),
		"twice in a loop": altered(cube(), func(s *impl.Solid) { s.Faces[0] = []int16{0, 4, 6, 6, 2} }),
		// Steps that are there twice, or have no step back.
		"edge of four": altered(tetrahedron(), func(s *impl.Solid) {
			s.Corners = append(s.Corners, impl.Point{-1, 0, 0}, impl.Point{0, 0, -1})
			s.Faces = append(s.Faces, []int16{0, 2, 4}, []int16{0, 5, 2}, []int16{2, 5, 4}, []int16{4, 5, 0})
		}),
		"face twice":    altered(cube(), func(s *impl.Solid) { s.Faces = append(s.Faces, s.Faces[0]) }),
		"face is gone":  altered(bipyramid(4), func(s *impl.Solid) { s.Faces = s.Faces[1:] }),
		"face reversed": altered(cube(), func(s *impl.Solid) { slices.Reverse(s.Faces[5]) }),
		"corner left out": altered(cube(), func(s *impl.Solid) {
			s.Faces[0] = []int16{0, 4, 6}
		}),
		// Corners in no face.
		"corner in no face": altered(cube(), func(s *impl.Solid) { s.Corners = append(s.Corners, impl.Point{0.5, 0.5, 0.5}) }),
		"same corner again": altered(cube(), func(s *impl.Solid) { s.Corners = append(s.Corners, s.Corners[0]) }),
		// Faces without a plane.
		"in a line": altered(cube(), func(s *impl.Solid) {
			s.Corners = append(s.Corners, impl.Point{0.5, 0, 0})
			s.Faces[2], s.Faces[4] = []int16{0, 8, 1, 5, 4}, []int16{0, 2, 3, 1, 8}
		}),
		"too small":   scaled(cube(), everywhere(below(1.0/1024))),
		"in a corner": scaled(cube(), impl.Point{}),
		"far away":    moved(scaled(tetrahedron(), everywhere(-100)), everywhere(impl.MaxSize)),
		// A corner is too far away from a plane.
		"above": altered(cube(), func(s *impl.Solid) { s.Corners[6][2] = above(1 + 1.0/64) }),
		"below": altered(cube(), func(s *impl.Solid) { s.Corners[6][2] = below(1 - 1.0/64) }),
		"away":  altered(cube(), func(s *impl.Solid) { s.Corners[2] = impl.Point{-3, 5, 1} }),
	}
	for _, corner := range []int16{-1, 8, 9, 24, 25, 32767, -32768} {
		list["no such corner "+row(corner)] = altered(cube(), func(s *impl.Solid) { s.Faces[3][2] = corner })
	}
	for _, a := range []float32{above(impl.MaxSize), below(-impl.MaxSize), infinite, -infinite, nan} {
		for k := range 3 {
			list["far tip "+row(a, int64(k))] = altered(spike(impl.MaxSize), func(s *impl.Solid) {
				s.Corners[slices.Index(s.Corners, impl.Point{impl.MaxSize, 0, 0})][k] = a
			})
			list["number "+row(a, int64(k))] = altered(tetrahedron(), func(s *impl.Solid) { s.Corners[k+1][k] = a })
		}
	}
	return list
}

func TestValidSolid(t *testing.T) {
	for name, s := range goodSolids() {
		if !impl.ValidSolid(s) {
			t.Errorf("%s: ValidSolid %s: got false", name, row(s))
		}
	}
	for name, s := range badSolids() {
		if impl.ValidSolid(s) {
			t.Errorf("%s: ValidSolid %s: got true", name, row(s))
		}
	}
}

func TestLimitsOfSolids(t *testing.T) {
	same(t, "limits", all(int64(impl.MaxCorners), int64(impl.MaxFaces), int64(impl.MaxLoop), int64(impl.MaxSolids), int64(impl.MaxSolidText)),
		all(int64(24), int64(16), int64(10), int64(6), int64(4000)))
	// All else is right of a tip that is only just too far away.
	s := spike(above(impl.MaxSize))
	if impl.ValidSolid(s) || !wantStepsBack(s) {
		t.Errorf("ValidSolid %s: got true", row(s))
	}
	for face, loop := range s.Faces {
		x, code := impl.FacePlane(spike(impl.MaxSize), int64(face))
		for _, corner := range loop {
			if side := sideOf(x, s.Corners[corner]); code != codeOK || side > 1.0/64 || side < -1.0/64 {
				t.Errorf("the corner %d is away from the face %d", corner, face)
			}
		}
	}
}

func TestSolidsFarFromTheMiddleHaveNoPlane(t *testing.T) {
	// All corners are plain, but D of the face that looks outside is not.
	s := badSolids()["far away"]
	for _, p := range s.Corners {
		if !impl.ValidPoint(p) {
			t.Fatalf("%s is not valid", row(p))
		}
	}
	if _, code := impl.PlaneThrough(s.Corners[1], s.Corners[2], s.Corners[3]); code != codeState {
		t.Errorf("PlaneThrough: got the code %d", code)
	}
}

func TestSolidsThatAreNotValidAreNotTaken(t *testing.T) {
	none, nothing := impl.Solid{}, impl.Point{}
	x := impl.Plane{N: impl.Point{0, 0, 1}, D: 0.5}
	for name, s := range badSolids() {
		check := func(function string, got []any, want ...any) {
			t.Helper()
			same(t, function+" of "+name, got, append(want, codeInvalid))
		}
		// ErrInvalid is ahead of what else is wrong.
		check("FacePlane", all(impl.FacePlane(s, 0)), impl.Plane{})
		check("FacePlane", all(impl.FacePlane(s, -1)), impl.Plane{})
		check("EdgesOf", all(impl.EdgesOf(s)), [][2]int16{})
		check("NeighbourOf", all(impl.NeighbourOf(s, 0, 0)), int64(0))
		check("NeighbourOf", all(impl.NeighbourOf(s, 100, -1)), int64(0))
		check("VolumeOf", all(impl.VolumeOf(s)), float32(0))
		check("FaceArea", all(impl.FaceArea(s, 0)), float32(0))
		check("FaceArea", all(impl.FaceArea(s, 100)), float32(0))
		check("MiddleOf", all(impl.MiddleOf(s)), nothing)
		check("IsConvex", all(impl.IsConvex(s)), false)
		check("IsInside", all(impl.IsInside(s, nothing)), false)
		check("FacingFaces", all(impl.FacingFaces(s, nothing)), []int64{})
		check("OutlineOf", all(impl.OutlineOf(s, nothing)), [][2]int16{})
		check("FirstHit", all(impl.FirstHit(s, impl.Point{5, 0, 0}, nothing)), impl.Hit{})
		check("MoveSolid", all(impl.MoveSolid(s, nothing)), none)
		check("TurnSolid", all(impl.TurnSolid(s, impl.Point{0, 0, 1}, 0.5)), none)
		check("TurnSolid", all(impl.TurnSolid(s, nothing, nan)), none)
		check("CutSolid", all(impl.CutSolid(s, x)), none)
		check("DrawnFirst", all(impl.DrawnFirst(s, cube(), nothing)), int64(0))
		check("DrawnFirst", all(impl.DrawnFirst(cube(), s, nothing)), int64(0))
		check("DrawnFirst", all(impl.DrawnFirst(angle(), s, nothing)), int64(0))
		check("OrderSolids", all(impl.OrderSolids([]impl.Solid{s}, nothing)), []int64{})
		check("OrderSolids", all(impl.OrderSolids([]impl.Solid{angle(), cube(), cube(), cube(), cube(), cube(), s}, nothing)), []int64{})
		same(t, "SolidText of "+name, all(impl.SolidText(s)), all(""))
	}
}

func TestPointsThatAreNotValidAreNotTaken(t *testing.T) {
	nothing := impl.Point{}
	// ErrInvalid is ahead of ErrState and of ErrRange, too.
	for _, s := range []impl.Solid{cube(), angle()} {
		for _, p := range badPoints {
			check := func(function string, got []any, want ...any) {
				t.Helper()
				same(t, function+" "+row(p), got, append(want, codeInvalid))
			}
			check("IsInside", all(impl.IsInside(s, p)), false)
			check("FacingFaces", all(impl.FacingFaces(s, p)), []int64{})
			check("OutlineOf", all(impl.OutlineOf(s, p)), [][2]int16{})
			check("FirstHit", all(impl.FirstHit(s, p, nothing)), impl.Hit{})
			check("FirstHit", all(impl.FirstHit(s, nothing, p)), impl.Hit{})
			check("MoveSolid", all(impl.MoveSolid(s, p)), impl.Solid{})
			check("TurnSolid", all(impl.TurnSolid(s, p, 2000)), impl.Solid{})
			check("CutSolid", all(impl.CutSolid(s, impl.Plane{N: p})), impl.Solid{})
			check("DrawnFirst", all(impl.DrawnFirst(s, cube(), p)), int64(0))
			for n := range 8 {
				list := slices.Repeat([]impl.Solid{s}, n)
				check("OrderSolids", all(impl.OrderSolids(list, p)), []int64{})
			}
			check("BoxSolid", all(impl.BoxSolid(p, nothing)), impl.Solid{})
			check("BoxSolid", all(impl.BoxSolid(nothing, p)), impl.Solid{})
			check("TentSolid", all(impl.TentSolid(p, nothing)), impl.Solid{})
			check("TentSolid", all(impl.TentSolid(nothing, p)), impl.Solid{})
		}
		for _, x := range []impl.Plane{{}, {N: impl.Point{0, 0, 2}}, {N: impl.Point{0, 0, 1}, D: above(impl.MaxSize)}, {N: impl.Point{0, 0, 1}, D: nan}} {
			same(t, "CutSolid "+row(x), all(impl.CutSolid(s, x)), all(impl.Solid{}, codeInvalid))
		}
	}
}

func TestSolidsThatAreNotConvex(t *testing.T) {
	uneven := []impl.Solid{angle(), notched(), twins(cube(), moved(cube(), impl.Point{5, 0, 0})), goodSolids()["inverted"]}
	for _, s := range uneven {
		check := func(function string, got []any, want ...any) {
			t.Helper()
			same(t, function+" "+row(s), got, append(want, codeState))
		}
		p, way := impl.Point{0.25, 0.25, 0.25}, impl.Point{1, 0, 0}
		check("IsInside", all(impl.IsInside(s, p)), false)
		check("FacingFaces", all(impl.FacingFaces(s, p)), []int64{})
		check("OutlineOf", all(impl.OutlineOf(s, p)), [][2]int16{})
		// ErrState is ahead of ErrNotFound.
		check("FirstHit", all(impl.FirstHit(s, p, p)), impl.Hit{})
		check("FirstHit", all(impl.FirstHit(s, impl.Point{-5, 0.25, 0.25}, p)), impl.Hit{})
		check("CutSolid", all(impl.CutSolid(s, impl.Plane{N: way, D: 0.5})), impl.Solid{})
		check("CutSolid", all(impl.CutSolid(s, impl.Plane{N: way, D: -5})), impl.Solid{})
		check("CutSolid", all(impl.CutSolid(s, impl.Plane{N: way, D: 50})), impl.Solid{})
		check("DrawnFirst", all(impl.DrawnFirst(s, moved(cube(), impl.Point{50, 0, 0}), p)), int64(0))
		check("DrawnFirst", all(impl.DrawnFirst(moved(cube(), impl.Point{50, 0, 0}), s, p)), int64(0))
		check("OrderSolids", all(impl.OrderSolids([]impl.Solid{s}, p)), []int64{})
		// It is ahead of ErrNotFound, but behind ErrRange.
		check("OrderSolids", all(impl.OrderSolids([]impl.Solid{cube(), cube(), s}, p)), []int64{})
		same(t, "OrderSolids of seven", all(impl.OrderSolids(slices.Repeat([]impl.Solid{s}, 7), p)), all([]int64{}, codeRange))
		// All the others take it.
		_, volumeCode := impl.VolumeOf(s)
		_, areaCode := impl.FaceArea(s, 0)
		_, movedCode := impl.MoveSolid(s, p)
		_, turnedCode := impl.TurnSolid(s, way, 0.3)
		same(t, "others", all(volumeCode, areaCode, movedCode, turnedCode), all(codeOK, codeOK, codeOK, codeOK))
	}
}

func TestSameSolid(t *testing.T) {
	var solids []impl.Solid
	for _, s := range goodSolids() {
		solids = append(solids, s)
	}
	for _, s := range badSolids() {
		solids = append(solids, s)
	}
	for _, s := range solids {
		for _, other := range solids {
			want := row(s) == row(other)
			if got := impl.SameSolid(s, other); got != want {
				t.Errorf("SameSolid %s: got %v", row(s, other), got)
			}
		}
		if !impl.SameSolid(s, scaled(s, impl.Point{1, 1, 1})) {
			t.Errorf("SameSolid %s and its copy: got false", row(s))
		}
	}
	// Zeros with other signs, loops that begin elsewhere and faces in another order are not the same; nil and empty ones are.
	s := cube()
	for name, other := range map[string]impl.Solid{
		"-0":        altered(s, func(s *impl.Solid) { s.Corners[0][1] = minusZero }),
		"elsewhere": altered(s, func(s *impl.Solid) { s.Faces[0] = []int16{4, 6, 2, 0} }),
		"order":     altered(s, func(s *impl.Solid) { s.Faces[0], s.Faces[1] = s.Faces[1], s.Faces[0] }),
		"shorter":   altered(s, func(s *impl.Solid) { s.Faces = s.Faces[:5] }),
		"loop":      altered(s, func(s *impl.Solid) { s.Faces[5] = s.Faces[5][:3] }),
		"corners":   altered(s, func(s *impl.Solid) { s.Corners = s.Corners[:7] }),
		"number":    altered(s, func(s *impl.Solid) { s.Corners[7][2] = above(1) }),
		"corner":    altered(s, func(s *impl.Solid) { s.Faces[5][3] = 7 }),
	} {
		if impl.SameSolid(s, other) || impl.SameSolid(other, s) {
			t.Errorf("SameSolid and %s: got true", name)
		}
	}
	one := impl.Solid{Faces: [][]int16{nil}}
	other := impl.Solid{Corners: []impl.Point{}, Faces: [][]int16{{}}}
	broken := impl.Solid{Corners: []impl.Point{{nan, 0, 0}}}
	same(t, "SameSolid of nothing", all(
		impl.SameSolid(one, other), impl.SameSolid(impl.Solid{}, other), impl.SameSolid(impl.Solid{}, impl.Solid{Faces: [][]int16{}}), impl.SameSolid(broken, broken),
	), all(true, false, true, true))
}

func TestBoxSolid(t *testing.T) {
	got, code := impl.BoxSolid(impl.Point{1, 2, 3}, impl.Point{4, 6, 8})
	same(t, "BoxSolid", all(got, code), all(impl.Solid{
		Corners: []impl.Point{{1, 2, 3}, {4, 2, 3}, {1, 6, 3}, {4, 6, 3}, {1, 2, 8}, {4, 2, 8}, {1, 6, 8}, {4, 6, 8}},
		Faces:   [][]int16{{0, 4, 6, 2}, {1, 3, 7, 5}, {0, 1, 5, 4}, {2, 6, 7, 3}, {0, 2, 3, 1}, {4, 5, 7, 6}},
	}, codeOK))
	// The zeros keep their signs.
	low, high := impl.Point{minusZero, -1, -1}, impl.Point{1, minusZero, 0}
	same(t, "BoxSolid", all(impl.BoxSolid(low, high)), all(box(low, high), codeOK))
	got, _ = impl.BoxSolid(low, high)
	same(t, "corners", all(got.Corners[0], got.Corners[7]), all(low, high))
}

func TestTentSolid(t *testing.T) {
	got, code := impl.TentSolid(impl.Point{1, 2, 3}, impl.Point{4, 6, 8})
	same(t, "TentSolid", all(got, code), all(impl.Solid{
		Corners: []impl.Point{{1, 2, 3}, {4, 2, 3}, {1, 6, 3}, {4, 6, 3}, {2.5, 4, 8}},
		Faces:   [][]int16{{0, 2, 3, 1}, {0, 1, 4}, {1, 3, 4}, {3, 2, 4}, {2, 0, 4}},
	}, codeOK))
	// The third number of the tip is that of high, whatever is between low and high.
	got, code = impl.TentSolid(impl.Point{-1, -1, -2}, impl.Point{1, 1, minusZero})
	same(t, "tip", all(got.Corners[4], code), all(impl.Point{0, 0, minusZero}, codeOK))
}

func TestBoxesAndTentsWithoutRoom(t *testing.T) {
	low := impl.Point{1, 2, 3}
	for k := range 3 {
		for _, a := range []float32{low[k], below(low[k]), 0, -5, -impl.MaxSize} {
			high := impl.Point{2, 3, 4}
			high[k] = a
			same(t, "BoxSolid "+row(high), all(impl.BoxSolid(low, high)), all(impl.Solid{}, codeRange))
			same(t, "TentSolid "+row(high), all(impl.TentSolid(low, high)), all(impl.Solid{}, codeRange))
			// ErrInvalid is ahead of ErrRange.
			high[(k+1)%3] = nan
			same(t, "BoxSolid "+row(high), all(impl.BoxSolid(low, high)), all(impl.Solid{}, codeInvalid))
			same(t, "TentSolid "+row(high), all(impl.TentSolid(low, high)), all(impl.Solid{}, codeInvalid))
		}
	}
	for _, zeros := range [][2]float32{{0, minusZero}, {minusZero, 0}, {0, 0}} {
		low, high := impl.Point{-1, -1, zeros[0]}, impl.Point{1, 1, zeros[1]}
		same(t, "BoxSolid "+row(high), all(impl.BoxSolid(low, high)), all(impl.Solid{}, codeRange))
		same(t, "TentSolid "+row(high), all(impl.TentSolid(low, high)), all(impl.Solid{}, codeRange))
	}
	// They would have faces without a plane, or only just have them.
	for _, c := range []struct {
		high impl.Point
		code int64
	}{
		{everywhere(1.0 / 1024), codeOK},
		{everywhere(below(1.0 / 1024)), codeState},
		{impl.Point{1, 1, 1.0 / 1048576}, codeOK},
		{impl.Point{1, 1, below(1.0 / 1048576)}, codeState},
		{impl.Point{1, 1, tiniest}, codeState},
		{everywhere(impl.MaxSize), codeOK},
	} {
		_, code := impl.BoxSolid(impl.Point{}, c.high)
		same(t, "BoxSolid "+row(c.high), all(code), all(c.code))
		_, code = impl.TentSolid(impl.Point{}, c.high)
		_, want := ifValid(wantTent(impl.Point{}, c.high))
		same(t, "TentSolid "+row(c.high), all(code), all(want))
	}
	same(t, "TentSolid", all(impl.TentSolid(impl.Point{}, everywhere(1.0/2048))), all(impl.Solid{}, codeState))
}
