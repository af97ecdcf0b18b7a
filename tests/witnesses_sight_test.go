package tests

import (
	"math"
	"slices"
	"testing"

	"loop.example/g01249/impl"
)

// fence has thin posts at even places from -2n to 2n, with gaps between them, at the depth 4.
func fence(n int) []impl.Solid {
	var posts []impl.Solid
	for i := -n; i <= n; i++ {
		x := float32(i) * 2
		posts = append(posts, box(impl.Point{x - 0.5, 4, -9}, impl.Point{x + 0.5, 4.03125, 9}))
	}
	return posts
}

func TestSeeEachOther(t *testing.T) {
	x := sceneOf(ahead(), moved(ahead(), impl.Point{6, 0, 0}))
	for name, c := range map[string]struct {
		p, q impl.Point
		want bool
	}{
		"through":       {impl.Point{0, 2, 0}, impl.Point{0, 8, 0}, false},
		"through both":  {impl.Point{-4, 5, 0}, impl.Point{10, 5, 0}, false},
		"between both":  {impl.Point{2, 5, 0}, impl.Point{4, 5, 0}, true},
		"in front":      {impl.Point{-9, 3, 0}, impl.Point{9, 3, 0}, true},
		"one behind":    {impl.Point{0, 2, 0}, impl.Point{0, 3, 0}, true},
		"at the face":   {impl.Point{0, 2, 0}, impl.Point{0, 4, 0}, true},
		"into it":       {impl.Point{0, 2, 0}, impl.Point{0, 5, 0}, false},
		"just into it":  {impl.Point{0, 2, 0}, impl.Point{0, above(4), 0}, true},
		"both faces":    {impl.Point{0, 4, 0}, impl.Point{0, 6, 0}, false},
		"both inside":   {impl.Point{0, 4.5, 0}, impl.Point{0, 5.5, 0}, true},
		"out of it":     {impl.Point{0, 5, 0}, impl.Point{0, 8, 0}, false},
		"along a face":  {impl.Point{-3, 4, 0}, impl.Point{3, 4, 0}, false},
		"past a face":   {impl.Point{-3, below(4), 0}, impl.Point{3, below(4), 0}, true},
		"along an edge": {impl.Point{-3, 4, 1}, impl.Point{3, 4, 1}, false},
		"past an edge":  {impl.Point{-3, 4, above(1)}, impl.Point{3, 4, above(1)}, true},
		"at a corner":   {impl.Point{-2, 5, 1}, impl.Point{0, 3, 1}, false},
		"past a corner": {impl.Point{-2, 5, 2}, impl.Point{0, 3, 2}, true},
		// The camera does not matter: neither what is behind it, nor how deep the points are.
		"behind":       {impl.Point{0, -8, 0}, impl.Point{0, 2, 0}, true},
		"behind both":  {impl.Point{0, -8, 0}, impl.Point{0, -2, 0}, true},
		"behind, hit":  {impl.Point{0, -8, 0}, impl.Point{0, 9, 0}, false},
		"from the eye": {impl.Point{}, impl.Point{0, 0.25, 0}, true},
		"the eye":      {impl.Point{}, impl.Point{}, true},
		// A point and itself.
		"itself":          {impl.Point{0, 2, 0}, impl.Point{0, 2, 0}, true},
		"itself, inside":  {impl.Point{0, 5, 0}, impl.Point{0, 5, 0}, true},
		"itself, on it":   {impl.Point{0, 4, 0}, impl.Point{0, 4, 0}, true},
		"itself, both 0s": {impl.Point{0, minusZero, 0}, impl.Point{minusZero, 0, 0}, true},
		"far away":        {impl.Point{0, -impl.MaxSize, 0}, impl.Point{0, impl.MaxSize, 0}, false},
		// So near to each other that the share is infinite, or where it is hit: it is not less than the one that counts.
		"tiny, infinite":   {impl.Point{}, impl.Point{0, tiniest, 0}, true},
		"tiny, not finite": {impl.Point{}, impl.Point{0, 0x1p-126, 0}, true},
		"tiny, from it":    {impl.Point{0, 4, 0}, impl.Point{0, above(4), 0}, false},
	} {
		same(t, name, all(impl.SeeEachOther(x, c.p, c.q)), all(c.want, codeOK))
		same(t, name+", back", all(impl.SeeEachOther(x, c.q, c.p)), all(c.want, codeOK))
		same(t, name+", without solids", all(impl.SeeEachOther(sceneOf(), c.p, c.q)), all(true, codeOK))
	}
	// Both ways are asked: on the long way there the share is too great to count, but not on the way back.
	wall := sceneOf(box(impl.Point{-1, 0, -1}, impl.Point{1, 1, 1}))
	far, through := impl.Point{0, -4096, 0}, impl.Point{0, 1.5, 0}
	same(t, "hits", all(len(hitsOn(wall.Solids, far, through)), len(hitsOn(wall.Solids, through, far))), all(0, 1))
	same(t, "there", all(impl.SeeEachOther(wall, far, through)), all(false, codeOK))
	same(t, "back", all(impl.SeeEachOther(wall, through, far)), all(false, codeOK))
	// Here it counts on neither way.
	inside := impl.Point{0, 0.5, 0}
	same(t, "hits", all(len(hitsOn(wall.Solids, far, inside)), len(hitsOn(wall.Solids, inside, far))), all(0, 0))
	same(t, "there", all(impl.SeeEachOther(wall, far, inside)), all(true, codeOK))
}

func TestSeenCorners(t *testing.T) {
	none := [][2]int64{}
	same(t, "no solids", all(impl.SeenCorners(sceneOf())), all(none, codeOK))
	front := [][2]int64{{0, 0}, {0, 1}, {0, 4}, {0, 5}}
	same(t, "one", all(impl.SeenCorners(sceneOf(ahead()))), all(front, codeOK))
	same(t, "three faces", all(impl.SeenCorners(sceneOf(aside()))), all([][2]int64{{0, 0}, {0, 1}, {0, 2}, {0, 3}, {0, 4}, {0, 5}, {0, 6}}, codeOK))
	same(t, "behind", all(impl.SeenCorners(sceneOf(moved(ahead(), impl.Point{0, -10, 0})))), all(none, codeOK))
	same(t, "one behind another", all(impl.SeenCorners(sceneOf(moved(ahead(), impl.Point{0, 8, 0}), ahead()))), all([][2]int64{{1, 0}, {1, 1}, {1, 4}, {1, 5}}, codeOK))
	same(t, "one in another", all(impl.SeenCorners(sceneOf(scaled(ahead(), impl.Point{2, 1.5, 2}), moved(scaled(ahead(), everywhere(0.5)), impl.Point{0, 5, 0})))), all(front, codeOK))
	// Around the eye: those ahead, on the inner side.
	same(t, "a room", all(impl.SeenCorners(sceneOf(room()))), all([][2]int64{{0, 2}, {0, 3}, {0, 6}, {0, 7}}, codeOK))
	// At the same place both are seen, or hidden.
	same(t, "the same twice", all(impl.SeenCorners(sceneOf(ahead(), ahead()))), all(append(front, [][2]int64{{1, 0}, {1, 1}, {1, 4}, {1, 5}}...), codeOK))
	// Just as deep as Near, and just less.
	same(t, "just Near", all(impl.SeenCorners(sceneOf(box(impl.Point{-1, 0.5, -1}, impl.Point{1, 6, 1})))), all(front, codeOK))
	same(t, "too near", all(impl.SeenCorners(sceneOf(box(impl.Point{-1, below(0.5), -1}, impl.Point{1, 6, 1})))), all(none, codeOK))
	// So far away nothing hides the other side of it.
	far, _ := impl.SeenCorners(sceneOf(moved(ahead(), impl.Point{0, 5000, 0})))
	same(t, "far", all(len(far)), all(8))
}

func TestSeenParts(t *testing.T) {
	one := sceneOf(ahead())
	a, b := impl.Point{-8, 8, 0}, impl.Point{8, 8, 0}
	none := [][2]int64{}
	for name, c := range map[string]struct {
		x     impl.Scene
		a, b  impl.Point
		parts int64
		runs  [][2]int64
		share float32
	}{
		"no solids":   {sceneOf(), a, b, 16, [][2]int64{{0, 15}}, 1},
		"one part":    {one, a, b, 1, none, 0},
		"two":         {one, a, b, 2, [][2]int64{{0, 1}}, 1},
		"three":       {one, a, b, 3, [][2]int64{{0, 0}, {2, 2}}, quotient(2, 3)},
		"seven":       {one, a, b, 7, [][2]int64{{0, 2}, {4, 6}}, quotient(6, 7)},
		"sixteen":     {one, a, b, 16, [][2]int64{{0, 5}, {10, 15}}, 0.75},
		"back":        {one, b, a, 16, [][2]int64{{0, 5}, {10, 15}}, 0.75},
		"half of it":  {one, impl.Point{0, 8, 0}, b, 16, [][2]int64{{4, 15}}, 0.75},
		"other half":  {one, a, impl.Point{0, 8, 0}, 16, [][2]int64{{0, 11}}, 0.75},
		"all hidden":  {one, impl.Point{-1, 8, 0}, impl.Point{1, 8, 0}, 16, none, 0},
		"in front":    {one, impl.Point{-1, 3, 0}, impl.Point{1, 3, 0}, 5, [][2]int64{{0, 4}}, 1},
		"along it":    {one, impl.Point{-2, 4, 0}, impl.Point{2, 4, 0}, 4, [][2]int64{{0, 3}}, 1},
		"into it":     {one, impl.Point{0, 2, 0}, impl.Point{0, 10, 0}, 4, [][2]int64{{0, 0}}, 0.25},
		"a fence":     {sceneOf(fence(2)...), impl.Point{-9, 8, 0}, impl.Point{9, 8, 0}, 9, [][2]int64{{1, 1}, {3, 3}, {5, 5}, {7, 7}}, quotient(4, 9)},
		"half fences": {sceneOf(fence(1)...), impl.Point{-8, 8, 0}, impl.Point{8, 8, 0}, 16, [][2]int64{{0, 2}, {5, 6}, {9, 10}, {13, 15}}, quotient(10, 16)},
		// Both ends are the same.
		"a point":        {one, impl.Point{0, 2, 0}, impl.Point{0, 2, 0}, 16, [][2]int64{{0, 15}}, 1},
		"a hidden point": {one, impl.Point{0, 9, 0}, impl.Point{0, 9, 0}, 16, none, 0},
		"the eye":        {one, impl.Point{}, impl.Point{}, 16, none, 0},
		// It goes through the eye, or ends behind the camera: what is less deep than Near is not seen.
		"through the eye": {one, impl.Point{0, -4, 0}, impl.Point{0, 4, 0}, 16, [][2]int64{{9, 15}}, quotient(7, 16)},
		"behind":          {sceneOf(), impl.Point{0, -4, 2}, impl.Point{0, 4, 2}, 8, [][2]int64{{4, 7}}, 0.5},
		"from behind":     {sceneOf(), impl.Point{0, 4, 2}, impl.Point{0, -4, 2}, 8, [][2]int64{{0, 3}}, 0.5},
		"all behind":      {sceneOf(), impl.Point{0, -4, 2}, impl.Point{0, 0, 2}, 8, none, 0},
		"just Near":       {sceneOf(), impl.Point{0, 0, 0}, impl.Point{0, 1, 0}, 1, [][2]int64{{0, 0}}, 1},
		"just less":       {sceneOf(), impl.Point{0, 0, 0}, impl.Point{0, below(1), 0}, 1, none, 0},
		"far away":        {sceneOf(), impl.Point{-impl.MaxSize, impl.MaxSize, 0}, everywhere(impl.MaxSize), 16, [][2]int64{{0, 15}}, 1},
		// Sums that are rounded are no greater than the ends, at the middles.
		"too large": {sceneOf(), impl.Point{overshooting(), 9, 9}, everywhere(impl.MaxSize), 16, [][2]int64{{0, 15}}, 1},
	} {
		same(t, "SeenParts "+name, all(impl.SeenParts(c.x, c.a, c.b, c.parts)), all(c.runs, codeOK))
		same(t, "SeenShare "+name, all(impl.SeenShare(c.x, c.a, c.b, c.parts)), all(c.share, codeOK))
	}
	for _, parts := range []int64{0, 17, -1, 18, math.MaxInt64, math.MinInt64, 1 << 32, 1<<32 + 1} {
		same(t, "SeenParts "+row(parts), all(impl.SeenParts(one, a, b, parts)), all(none, codeRange))
		same(t, "SeenShare "+row(parts), all(impl.SeenShare(one, a, b, parts)), all(float32(0), codeRange))
		same(t, "SketchOf "+row(parts), all(impl.SketchOf(one, parts)), all([][2]impl.Spot{}, codeRange))
		// ErrRange is ahead of ErrLimit.
		same(t, "SketchOf "+row(parts), all(impl.SketchOf(faraway(37), parts)), all([][2]impl.Spot{}, codeRange))
	}
}

// The shares of the middles are narrow numbers, and so are the points: each part is asked just there.
func TestMiddlesOfParts(t *testing.T) {
	// The face is at the middle of the last part of five, or just before or behind it.
	a, b := impl.Point{0, 1, 0}, impl.Point{0, 3, 0}
	middle := wantBetween(a, b, quotient(4.5, 5))
	for _, c := range []struct {
		y    float32
		runs [][2]int64
	}{{middle[1], [][2]int64{{0, 4}}}, {2.75, [][2]int64{{0, 3}}}, {2.85, [][2]int64{{0, 4}}}, {2.5, [][2]int64{{0, 3}}}, {2, [][2]int64{{0, 2}}}} {
		x := sceneOf(box(impl.Point{-1, c.y, -1}, impl.Point{1, 9, 1}))
		runs, code := impl.SeenParts(x, a, b, 5)
		want, _ := wantSeenParts(x, a, b, 5)
		same(t, "SeenParts "+row(c.y), all(runs, code), all(want, codeOK))
		same(t, "SeenParts "+row(c.y), all(runs), all(c.runs))
	}
}

// lineOf has the spots of two corners of a solid, as the camera straight sees them.
func lineOf(s impl.Solid, i, k int) [2]impl.Spot {
	var ends [2]impl.Spot
	for n, corner := range []int{i, k} {
		p := s.Corners[corner]
		ends[n] = impl.Spot{p[0] / p[1] * 2, p[2] / p[1] * 2}
	}
	return ends
}

func TestSketchOf(t *testing.T) {
	none := [][2]impl.Spot{}
	s := ahead()
	front := [][2]impl.Spot{lineOf(s, 0, 4), lineOf(s, 0, 1), lineOf(s, 1, 5), lineOf(s, 4, 5)}
	// The edges are in the order of EdgesOf: those of the face 0 first.
	edges, _ := impl.EdgesOf(s)
	same(t, "EdgesOf", all(edges), all([][2]int16{{0, 4}, {4, 6}, {1, 3}, {3, 7}, {0, 1}, {1, 5}, {2, 6}, {6, 7}, {0, 2}, {2, 3}, {4, 5}, {5, 7}}))
	same(t, "no solids", all(impl.SketchOf(sceneOf(), 16)), all(none, codeOK))
	same(t, "behind", all(impl.SketchOf(sceneOf(moved(s, impl.Point{0, -10, 0})), 4)), all(none, codeOK))
	for _, parts := range []int64{1, 2, 5, 16} {
		same(t, "one", all(impl.SketchOf(sceneOf(s), parts)), all(front, codeOK))
		same(t, "two", all(impl.SketchOf(sceneOf(s, s), parts)), all(append(slices.Clone(front), front...), codeOK))
	}
	// A post hides the middle of the edges behind it: 0 1, 4 5 and the post's own ones, from below to above.
	post := box(impl.Point{-0.25, 2, -4}, impl.Point{0.25, 2.5, 4})
	got, code := impl.SketchOf(sceneOf(s, post), 16)
	var want [][2]impl.Spot
	share := func(i, k int, from, to float32) [2]impl.Spot {
		whole := lineOf(s, i, k)
		return [2]impl.Spot{wantBetweenSpots(whole[0], whole[1], from), wantBetweenSpots(whole[0], whole[1], to)}
	}
	want = append(want, lineOf(s, 0, 4), share(0, 1, 0, 0.25), share(0, 1, 0.75, 1), lineOf(s, 1, 5), share(4, 5, 0, 0.25), share(4, 5, 0.75, 1))
	want = append(want, lineOf(post, 0, 4), lineOf(post, 0, 1), lineOf(post, 1, 5), lineOf(post, 4, 5))
	same(t, "a post", all(got, code), all(want, codeOK))
}

// Runs of which one end has no spot are left out: it is less deep than Near, or too large to be valid.
func TestSketchWithoutSpots(t *testing.T) {
	// The edges that go away from the eye begin behind it; they are seen from the middle of the first part on, or from a later one.
	long := box(impl.Point{1, -2, 1}, impl.Point{2, 6, 2})
	x := sceneOf(long)
	got, code := impl.SketchOf(x, 1)
	want, _ := wantSketchOf(x, 1)
	same(t, "one part", all(got, code), all(want, codeOK))
	same(t, "one part", all(len(got)), all(2))
	// In four parts the middle of the second one is at the depth 1, and its beginning at 0: it is left out.
	got, code = impl.SketchOf(x, 4)
	same(t, "four parts", all(len(got), code), all(2, codeOK))
	// In eight parts the run begins at the depth 1: 0.5 is the middle of the part before, and just seen; so this is left out as well.
	got, code = impl.SketchOf(x, 8)
	same(t, "eight parts", all(len(got), code), all(2, codeOK))
	// In sixteen it begins at 0.5, just as deep as Near.
	got, code = impl.SketchOf(x, 16)
	same(t, "sixteen parts", all(len(got), code), all(5, codeOK))
	want, left := sketchOf(x, 16)
	same(t, "sixteen parts", all(got, left), all(want, 0))
	_, left = sketchOf(x, 8)
	same(t, "left out", all(left), all(3))
	x.Camera.Near = above(0.5)
	got, code = impl.SketchOf(x, 8)
	same(t, "eight parts, Near a little greater", all(len(got), code), all(5, codeOK))
}

// overshooting is so far from the greatest plain number that the sum with the difference is too large.
func overshooting() float32 {
	low := float32(-impl.MaxSize)
	for wantBetween(impl.Point{low}, impl.Point{impl.MaxSize}, 1)[0] <= impl.MaxSize {
		low = above(low)
	}
	return low
}

func TestSketchWithPointsThatAreTooLarge(t *testing.T) {
	wall := box(impl.Point{overshooting(), 1000, -1000}, impl.Point{impl.MaxSize, 2000, 1000})
	x := sceneOf(wall)
	if !impl.ValidScene(x) {
		t.Fatal("the wall is not valid")
	}
	for _, parts := range []int64{1, 3, 16} {
		lines, left := sketchOf(x, parts)
		if left == 0 || len(lines) == 0 {
			t.Errorf("%d lines, and %d without spots", len(lines), left)
		}
		same(t, "a wall", all(impl.SketchOf(x, parts)), all(lines, codeOK))
		// The points themselves are seen, and counted.
		same(t, "SeenShare", all(impl.SeenShare(x, wall.Corners[0], wall.Corners[1], parts)), all(float32(1), codeOK))
	}
	// A little nearer all edges have their spots.
	wall = box(impl.Point{-900000, 1000, -1000}, impl.Point{900000, 2000, 1000})
	lines, left := sketchOf(sceneOf(wall), 1)
	same(t, "a smaller wall", all(impl.SketchOf(sceneOf(wall), 1)), all(lines, codeOK))
	same(t, "none is left out", all(left), all(0))
}

// faraway is a scene with five solids of 36 edges each, and one of so many, of which all are seen.
func faraway(edges int) impl.Scene {
	var x impl.Scene
	for i := range 5 {
		x.Solids = append(x.Solids, moved(octagons(), impl.Point{float32(20 * i), 0, 0}))
	}
	last := map[int]impl.Solid{6: tetrahedron(), 20: pyramid(10), 21: prism(7), 18: pyramid(9), 36: octagons(), 37: octagons()}[edges]
	x.Solids = append(x.Solids, moved(last, impl.Point{0, 0, 40}))
	x.Camera = with(func(c *impl.Camera) { c.Eye, c.At = impl.Point{40, -30000, 20}, impl.Point{40, 0, 20} })
	return x
}

func TestSketchesWithManyLines(t *testing.T) {
	for edges, want := range map[int]int64{6: codeOK, 18: codeOK, 20: codeOK, 21: codeLimit, 36: codeLimit} {
		for _, parts := range []int64{1, 7, 16} {
			x := faraway(edges)
			lines, left := sketchOf(x, parts)
			same(t, "lines", all(len(lines), left), all(180+edges, 0))
			got, code := impl.SketchOf(x, parts)
			if want == codeOK {
				same(t, "SketchOf", all(got, code), all(lines, codeOK))
			} else {
				same(t, "SketchOf", all(got, code), all([][2]impl.Spot{}, codeLimit))
			}
		}
	}
	// Only lines count, not runs that are left out: those of this room begin behind the eye.
	x := faraway(20)
	x.Solids[5] = box(impl.Point{30, -30009, 10}, impl.Point{50, -20000, 30})
	lines, left := sketchOf(x, 1)
	got, code := impl.SketchOf(x, 1)
	same(t, "a room", all(got, code), all(lines, codeOK))
	if len(lines) > 200 || left == 0 {
		t.Errorf("%d lines, and %d left out", len(lines), left)
	}
}
