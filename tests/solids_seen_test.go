package tests

import (
	"testing"

	"loop.example/g01249/impl"
)

func TestIsInside(t *testing.T) {
	for _, c := range []struct {
		p    impl.Point
		want bool
	}{
		{impl.Point{0.5, 1, 1.5}, true},
		// On a face, an edge, a corner; and just outside.
		{impl.Point{1, 1, 1}, true},
		{impl.Point{0, 2, 1}, true},
		{impl.Point{1, 2, 3}, true},
		{impl.Point{minusZero, 0, minusZero}, true},
		{impl.Point{above(1), 1, 1}, false},
		{impl.Point{-tiniest, 1, 1}, false},
		{impl.Point{0.5, above(2), 1}, false},
		{impl.Point{0.5, -tiniest, 1}, false},
		{impl.Point{0.5, 1, above(3)}, false},
		{impl.Point{0.5, 1, -tiniest}, false},
		{impl.Point{impl.MaxSize, impl.MaxSize, -impl.MaxSize}, false},
	} {
		same(t, "IsInside "+row(c.p), all(impl.IsInside(example, c.p)), all(c.want, codeOK))
	}
	// Of a flat solid all of the plane is inside.
	same(t, "IsInside", all(impl.IsInside(flat(0), impl.Point{7, 7, 0})), all(true, codeOK))
	same(t, "IsInside", all(impl.IsInside(flat(0), impl.Point{0.5, 0.25, tiniest})), all(false, codeOK))
}

func TestFacingFaces(t *testing.T) {
	for _, c := range []struct {
		eye     impl.Point
		faces   []int64
		outline [][2]int16
	}{
		{impl.Point{5, 1, 1}, []int64{1}, [][2]int16{{1, 3}, {3, 7}, {1, 5}, {5, 7}}},
		{impl.Point{-1, 1, 1}, []int64{0}, [][2]int16{{0, 4}, {4, 6}, {2, 6}, {0, 2}}},
		{impl.Point{5, 5, 5}, []int64{1, 3, 5}, [][2]int16{{4, 6}, {1, 3}, {1, 5}, {2, 6}, {2, 3}, {4, 5}}},
		{impl.Point{-5, 1, 5}, []int64{0, 5}, [][2]int16{{0, 4}, {2, 6}, {6, 7}, {0, 2}, {4, 5}, {5, 7}}},
		// Faces do not look to points in their plane, or inside.
		{impl.Point{1, 1, 1}, nil, nil},
		{impl.Point{1, 2, 3}, nil, nil},
		{impl.Point{0.5, 1, 1}, nil, nil},
		{impl.Point{1, 1, 5}, []int64{5}, [][2]int16{{4, 6}, {6, 7}, {4, 5}, {5, 7}}},
		{impl.Point{above(1), 1, 1}, []int64{1}, [][2]int16{{1, 3}, {3, 7}, {1, 5}, {5, 7}}},
	} {
		same(t, "FacingFaces "+row(c.eye), all(impl.FacingFaces(example, c.eye)), all(c.faces, codeOK))
		same(t, "OutlineOf "+row(c.eye), all(impl.OutlineOf(example, c.eye)), all(c.outline, codeOK))
	}
	// Of a flat solid, edges between two faces that look up are not in the outline.
	same(t, "FacingFaces", all(impl.FacingFaces(flat(0), impl.Point{5, 5, 5})), all([]int64{0, 1}, codeOK))
	same(t, "OutlineOf", all(impl.OutlineOf(flat(0), impl.Point{5, 5, 5})), all([][2]int16{{0, 1}, {1, 2}, {2, 3}, {0, 3}}, codeOK))
	same(t, "OutlineOf", all(impl.OutlineOf(flat(0), impl.Point{5, 5, 0})), all([][2]int16{}, codeOK))
}

func TestFirstHit(t *testing.T) {
	hit := func(face int64, share float32, at impl.Point) []any {
		return all(impl.Hit{Face: face, Share: share, At: at}, codeOK)
	}
	none := all(impl.Hit{}, codeNotFound)
	for name, c := range map[string]struct {
		a, b impl.Point
		want []any
	}{
		"before b":   {impl.Point{-1, 0.5, 0.5}, impl.Point{3, 0.5, 0.5}, hit(0, 0.25, impl.Point{0, 0.5, 0.5})},
		"at b":       {impl.Point{2, 0.5, 0.5}, impl.Point{1, 0.5, 0.5}, hit(1, 1, impl.Point{1, 0.5, 0.5})},
		"behind b":   {impl.Point{0.5, -2, 0.5}, impl.Point{0.5, -1.5, 0.5}, hit(2, 4, impl.Point{0.5, 0, 0.5})},
		"from above": {impl.Point{0.25, 0.5, 3}, impl.Point{0.25, 0.5, 2}, hit(5, 2, impl.Point{0.25, 0.5, 1})},
		"slanting":   {impl.Point{-1, -0.5, 0.5}, impl.Point{0, 0, 0.5}, hit(0, 1, impl.Point{0, 0, 0.5})},
		// It comes in where the last plane is passed.
		"past one plane": {impl.Point{-1, -3, 0.5}, impl.Point{-0.5, -1.5, 0.5}, hit(0, 2, impl.Point{0, 0, 0.5})},
		"past another":   {impl.Point{-1.5, -1, 0.5}, impl.Point{-1, 0, 0.5}, none},
		"over a corner":  {impl.Point{-1, -1.5, 0.5}, impl.Point{0, -0.5, 0.5}, hit(2, 1.5, impl.Point{0.5, 0, 0.5})},
		// Of several faces with the same share it is the first one.
		"through an edge":  {impl.Point{-1, -1, 0.5}, impl.Point{0, 0, 0.5}, hit(0, 1, impl.Point{0, 0, 0.5})},
		"through a corner": {impl.Point{2, 2, 2}, impl.Point{1.5, 1.5, 1.5}, hit(1, 2, impl.Point{1, 1, 1})},
		"another edge":     {impl.Point{0.5, 2, 2}, impl.Point{0.5, 1, 1}, hit(3, 1, impl.Point{0.5, 1, 1})},
		// It touches an edge or a corner, and comes in where it goes out; or it just passes by.
		"touches an edge": {impl.Point{-1, 1, 0.5}, impl.Point{1, -1, 0.5}, hit(0, 0.5, impl.Point{0, 0, 0.5})},
		"passes an edge":  {impl.Point{-1, below(1), 0.5}, impl.Point{1, below(-1), 0.5}, none},
		// It runs along a face, or just beside it.
		"along a face":  {impl.Point{-1, 0, 0.5}, impl.Point{1, 0, 0.5}, hit(0, 0.5, impl.Point{0, 0, 0.5})},
		"along an edge": {impl.Point{-1, 1, 1}, impl.Point{1, 1, 1}, hit(0, 0.5, impl.Point{0, 1, 1})},
		"beside a face": {impl.Point{-1, -tiniest, 0.5}, impl.Point{1, -tiniest, 0.5}, none},
		"beside above":  {impl.Point{-1, 0.5, above(1)}, impl.Point{1, 0.5, above(1)}, none},
		// It begins at a face, inside, or points away.
		"from a face":       {impl.Point{1, 0.5, 0.5}, impl.Point{0, 0.5, 0.5}, hit(1, minusZero, impl.Point{1, 0.5, 0.5})},
		"from a face at 0":  {impl.Point{0, 0.5, 0.5}, impl.Point{1, 0.5, 0.5}, hit(0, minusZero, impl.Point{0, 0.5, 0.5})},
		"away from a face":  {impl.Point{1, 0.5, 0.5}, impl.Point{2, 0.5, 0.5}, none},
		"from inside":       {impl.Point{0.5, 0.5, 0.5}, impl.Point{2, 0.5, 0.5}, none},
		"from just inside":  {impl.Point{below(1), 0.5, 0.5}, impl.Point{-1, 0.5, 0.5}, none},
		"from just outside": {impl.Point{above(1), 0.5, 0.5}, impl.Point{0, 0.5, 0.5}, hit(1, 0x1p-23/(1+0x1p-23), impl.Point{1, 0.5, 0.5})},
		"away":              {impl.Point{2, 0.5, 0.5}, impl.Point{3, 0.5, 0.5}, none},
		"elsewhere":         {impl.Point{5, 5, 5}, impl.Point{5, 4, 5}, none},
		// No way at all.
		"nowhere outside": {impl.Point{5, 5, 5}, impl.Point{5, 5, 5}, none},
		"nowhere inside":  {impl.Point{0.5, 0.5, 0.5}, impl.Point{0.5, 0.5, 0.5}, none},
		"nowhere at 0":    {impl.Point{}, impl.Point{minusZero, 0, minusZero}, none},
	} {
		s := cube()
		same(t, name+" "+row(c.a, c.b), all(impl.FirstHit(s, c.a, c.b)), c.want)
	}
}

func TestFirstHitOfHugeShares(t *testing.T) {
	s := box(impl.Point{1, 0, 0}, impl.Point{2, 1, 1})
	a := impl.Point{0, 0.5, 0.5}
	same(t, "a small step", all(impl.FirstHit(s, a, impl.Point{0x1p-126, 0.5, 0.5})),
		all(impl.Hit{Face: 0, Share: 0x1p126, At: impl.Point{1, 0.5, 0.5}}, codeOK))
	// Both shares are infinite, so that it comes in where it goes out.
	same(t, "the smallest step", all(impl.FirstHit(s, a, impl.Point{tiniest, 0.5, 0.5})), all(impl.Hit{}, codeState))
	same(t, "the smallest step back", all(impl.FirstHit(s, a, impl.Point{-tiniest, 0.5, 0.5})), all(impl.Hit{}, codeNotFound))
	// The share is finite, and the point is not: a flat solid ends nowhere.
	way := impl.Point{impl.MaxSize, 0, 1e-33}
	same(t, "far aside", all(impl.FirstHit(flat(1), impl.Point{}, way)), all(impl.Hit{}, codeState))
	way[0] = 1
	got, code := impl.FirstHit(flat(1), impl.Point{}, way)
	same(t, "less far aside", all(got.Face, got.Share > 1e32, impl.ValidPoint(got.At), code), all(int64(2), true, false, codeOK))
}

func TestFirstHitOfWhatIsNearlyConvex(t *testing.T) {
	// Way in and way out are told by the planes alone, also where these tell something else than the faces.
	s := tiny(angle())
	got, code := impl.FirstHit(s, impl.Point{-1, 0.004, 0.003}, impl.Point{0, 0.004, 0.003})
	same(t, "FirstHit below", all(got.Face, got.Share, code), all(int64(7), float32(1), codeOK))
	// Behind the plane of the corner that points inside, all is outside.
	same(t, "FirstHit above", all(impl.FirstHit(s, impl.Point{-1, 0.008, 0.003}, impl.Point{0, 0.008, 0.003})), all(impl.Hit{}, codeNotFound))
}
