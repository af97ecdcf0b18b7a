package tests

import (
	"math"
	"testing"

	"loop.example/g01249/impl"
)

// example is the box from 0, 0, 0 to 1, 2, 3, and exampleEye the eye that sees it.
var (
	example    = box(impl.Point{}, impl.Point{1, 2, 3})
	exampleEye = impl.Point{5, 1, 1}
)

func TestExampleOfSolids(t *testing.T) {
	s, code := impl.BoxSolid(impl.Point{0, 0, 0}, impl.Point{1, 2, 3})
	same(t, "BoxSolid", all(s, code), all(example, codeOK))
	edges, code := impl.EdgesOf(s)
	same(t, "EdgesOf", all(int64(len(edges)), code), all(int64(12), codeOK))
	same(t, "VolumeOf", all(impl.VolumeOf(s)), all(float32(6), codeOK))
	same(t, "FacingFaces", all(impl.FacingFaces(s, exampleEye)), all([]int64{1}, codeOK))
	outline, code := impl.OutlineOf(s, exampleEye)
	same(t, "OutlineOf", all(int64(len(outline)), code), all(int64(4), codeOK))
	same(t, "FirstHit", all(impl.FirstHit(s, exampleEye, impl.Point{4, 1, 1})), all(impl.Hit{Face: 1, Share: 4, At: impl.Point{1, 1, 1}}, codeOK))
	cut, code := impl.CutSolid(s, impl.Plane{N: impl.Point{0, 0, 1}, D: 1})
	same(t, "CutSolid", all(int64(len(cut.Corners)), code), all(int64(8), codeOK))
	volume, code := impl.VolumeOf(cut)
	same(t, "VolumeOf the part", all(near(volume-2, 2), code), all(true, codeOK))
	tent, code := impl.TentSolid(impl.Point{0, 0, 0}, impl.Point{1, 2, 3})
	same(t, "TentSolid", all(tent, code), all(wantTent(impl.Point{}, impl.Point{1, 2, 3}), codeOK))
	volume, code = impl.VolumeOf(tent)
	same(t, "VolumeOf the tent", all(near(volume-2, 2), code), all(true, codeOK))
	behind, code := impl.MoveSolid(s, impl.Point{-5, 0, 0})
	same(t, "MoveSolid", all(behind, code), all(box(impl.Point{-5, 0, 0}, impl.Point{-4, 2, 3}), codeOK))
	same(t, "DrawnFirst", all(impl.DrawnFirst(s, behind, exampleEye)), all(int64(1), codeOK))
	same(t, "DrawnFirst", all(impl.DrawnFirst(behind, s, exampleEye)), all(int64(0), codeOK))
	same(t, "OrderSolids", all(impl.OrderSolids([]impl.Solid{s, behind}, exampleEye)), all([]int64{1, 0}, codeOK))
}

func TestFacePlane(t *testing.T) {
	s := box(impl.Point{1, 2, 3}, impl.Point{4, 6, 8})
	want := []impl.Plane{
		{N: impl.Point{-1, 0, 0}, D: -1}, {N: impl.Point{1, 0, 0}, D: 4},
		{N: impl.Point{0, -1, 0}, D: -2}, {N: impl.Point{0, 1, 0}, D: 6},
		{N: impl.Point{0, 0, -1}, D: -3}, {N: impl.Point{0, 0, 1}, D: 8},
	}
	for face, x := range want {
		got, code := impl.FacePlane(s, int64(face))
		// Zeros may have any sign here; they are compared elsewhere.
		same(t, "FacePlane", all(got.N == x.N, got.D, code), all(true, x.D, codeOK))
	}
	// It is the plane of the first three corners, and not of others.
	bent := goodSolids()["above"]
	got, code := impl.FacePlane(bent, 5)
	want5, _ := impl.PlaneThrough(bent.Corners[4], bent.Corners[5], bent.Corners[7])
	same(t, "FacePlane", all(got, code), all(want5, codeOK))
	bent.Faces[5] = []int16{5, 7, 6, 4}
	if turned, _ := impl.FacePlane(bent, 5); impl.SamePlane(got, turned) {
		t.Errorf("FacePlane does not ask for the first three corners")
	}
}

func TestFacesThatAreNotThere(t *testing.T) {
	for _, face := range []int64{-1, 6, 7, 16, math.MaxInt64, math.MinInt64, 1 << 32, 1 << 16} {
		same(t, "FacePlane "+row(face), all(impl.FacePlane(example, face)), all(impl.Plane{}, codeRange))
		same(t, "FaceArea "+row(face), all(impl.FaceArea(example, face)), all(float32(0), codeRange))
		same(t, "NeighbourOf "+row(face), all(impl.NeighbourOf(example, face, 0)), all(int64(0), codeRange))
		same(t, "NeighbourOf "+row(face), all(impl.NeighbourOf(example, 0, face)), all(int64(0), codeRange))
	}
	same(t, "NeighbourOf", all(impl.NeighbourOf(example, 0, 4)), all(int64(0), codeRange))
	// Loops have different numbers of steps.
	tent := wantTent(impl.Point{}, impl.Point{1, 2, 3})
	same(t, "NeighbourOf", all(impl.NeighbourOf(tent, 0, 3)), all(int64(1), codeOK))
	same(t, "NeighbourOf", all(impl.NeighbourOf(tent, 1, 3)), all(int64(0), codeRange))
	same(t, "NeighbourOf", all(impl.NeighbourOf(tent, 4, 2)), all(int64(3), codeOK))
	same(t, "FacePlane", all(impl.FacePlane(tent, 5)), all(impl.Plane{}, codeRange))
}

func TestEdgesOf(t *testing.T) {
	same(t, "EdgesOf a box", all(impl.EdgesOf(example)), all([][2]int16{
		{0, 4}, {4, 6}, {1, 3}, {3, 7}, {0, 1}, {1, 5}, {2, 6}, {6, 7}, {0, 2}, {2, 3}, {4, 5}, {5, 7},
	}, codeOK))
	// The step from the last corner to the first one is the last one of a loop.
	s := altered(tetrahedron(), func(s *impl.Solid) { s.Faces = [][]int16{{3, 0, 1}, {2, 1, 0}, {3, 2, 0}, {1, 2, 3}} })
	same(t, "EdgesOf a tetrahedron", all(impl.EdgesOf(s)), all([][2]int16{{0, 1}, {1, 3}, {0, 2}, {0, 3}, {1, 2}, {2, 3}}, codeOK))
}

func TestNeighbourOf(t *testing.T) {
	// The faces of a box are -1 and 1 along each axis; the loop 0 4 6 2 goes along the faces 2, 5, 3 and 4.
	want := [][]int64{{2, 5, 3, 4}, {4, 3, 5, 2}, {4, 1, 5, 0}, {0, 5, 1, 4}, {0, 3, 1, 2}, {2, 1, 3, 0}}
	for face, list := range want {
		for edge, other := range list {
			same(t, "NeighbourOf "+row(int64(face), int64(edge)), all(impl.NeighbourOf(example, int64(face), int64(edge))), all(other, codeOK))
		}
	}
}

func TestVolumeOf(t *testing.T) {
	for name, c := range map[string]struct {
		s    impl.Solid
		want float32
	}{
		"tetrahedron": {tetrahedron(), 1.0 / 6},
		"cube":        {cube(), 1},
		"moved":       {moved(cube(), impl.Point{5, -3, 7}), 1},
		"angle":       {angle(), 3},
		"notched":     {notched(), 5},
		"twins":       {twins(cube(), moved(example, impl.Point{5, 0, 0})), 7},
		"inverted":    {goodSolids()["inverted"], -1},
		"flat":        {flat(0), 0},
		"flat -0":     {flat(minusZero), 0},
		"flat aside": {impl.Solid{
			Corners: []impl.Point{{-3, -2, minusZero}, {-2, -2, minusZero}, {-2, -1, minusZero}, {-3, -1, minusZero}},
			Faces:   [][]int16{{0, 3, 1}, {3, 2, 1}, {2, 3, 0}, {1, 2, 0}},
		}, 0},
		"flat below":    {scaled(flat(minusZero), impl.Point{-1, -1, 1}), 0},
		"one behind 0":  {scaled(cube(), everywhere(-1)), -1},
		"as large as 2": {box(everywhere(-impl.MaxSize), everywhere(impl.MaxSize)), 8e18},
	} {
		got, code := impl.VolumeOf(c.s)
		// The sum begins with 0, so that it is never -0.
		if code != codeOK || !near((got-c.want)/(1+float32(math.Abs(float64(c.want)))), 0) || impl.SameNumber(got, minusZero) {
			t.Errorf("VolumeOf %s: got %s, want %v", name, row(got, code), c.want)
		}
	}
}

func TestFaceArea(t *testing.T) {
	for face, want := range []float32{6, 6, 3, 3, 2, 2} {
		same(t, "FaceArea", all(impl.FaceArea(example, int64(face))), all(want, codeOK))
	}
	tent := wantTent(impl.Point{}, impl.Point{6, 8, 4})
	for face, want := range []float32{48, 3 * float32(math.Sqrt(32)), 20, 3 * float32(math.Sqrt(32)), 20} {
		got, code := impl.FaceArea(tent, int64(face))
		if code != codeOK || !near(got-want, want) {
			t.Errorf("FaceArea of a tent: got %s, want %v", row(got, code), want)
		}
	}
	// The triangles are those of the first corner: where this does not see all of the loop, they are more than the face.
	s := angle()
	same(t, "FaceArea from the corner inside", all(impl.FaceArea(altered(s, func(s *impl.Solid) { s.Faces[1] = []int16{9, 10, 11, 6, 7, 8} }), 1)), all(float32(3), codeOK))
	same(t, "FaceArea from another corner", all(impl.FaceArea(altered(s, func(s *impl.Solid) { s.Faces[1] = []int16{7, 8, 9, 10, 11, 6} }), 1)), all(float32(4), codeOK))
}

func TestMiddleOf(t *testing.T) {
	same(t, "MiddleOf a box", all(impl.MiddleOf(example)), all(impl.Point{0.5, 1, 1.5}, codeOK))
	same(t, "MiddleOf a tent", all(impl.MiddleOf(wantTent(impl.Point{}, impl.Point{1, 2, 5}))), all(impl.Point{0.5, 1, 1}, codeOK))
	// The sums begin with the first corner, so that -0 stays.
	same(t, "MiddleOf -0", all(impl.MiddleOf(flat(minusZero))), all(impl.Point{0.5, 0.5, minusZero}, codeOK))
	mixed := altered(flat(minusZero), func(s *impl.Solid) { s.Corners[3][2] = 0 })
	same(t, "MiddleOf -0 and 0", all(impl.MiddleOf(mixed)), all(impl.Point{0.5, 0.5, 0}, codeOK))
}

func TestIsConvex(t *testing.T) {
	good := goodSolids()
	for name, want := range map[string]bool{
		"tetrahedron": true, "cube": true, "largest": true, "smallest": true, "flat": true, "corners": true, "faces": true,
		"loop": true, "below": true, "middle": true,
		"angle": false, "notched": false, "twins": false, "inside": false, "inverted": false,
	} {
		same(t, "IsConvex "+name, all(impl.IsConvex(good[name])), all(want, codeOK))
	}
	// What is small is never far outside.
	for _, s := range []impl.Solid{angle(), notched(), twins(tetrahedron(), moved(tetrahedron(), impl.Point{1, 1, 0})), good["inverted"]} {
		same(t, "IsConvex "+row(tiny(s)), all(impl.IsConvex(tiny(s))), all(true, codeOK))
	}
	// A step inwards is just as deep as it may be, or a little deeper.
	stepped := func(depth float32) impl.Solid {
		return prismOver([]impl.Point{{0, 0, 0}, {1, 0, 0}, {1, 1 - depth, 0}, {1 - depth, 1 - depth, 0}, {1 - depth, 1, 0}, {0, 1, 0}}, 1)
	}
	same(t, "IsConvex", all(impl.IsConvex(stepped(1.0/64))), all(true, codeOK))
	same(t, "IsConvex", all(impl.IsConvex(stepped(1.0/64+0x1p-20))), all(false, codeOK))
}
