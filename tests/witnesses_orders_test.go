package tests

import (
	"math"
	"slices"
	"testing"

	"loop.example/g01249/impl"
)

// lined are cubes ahead of the camera straight, one behind the other, the nearest one first.
func lined(n int) []impl.Solid {
	var list []impl.Solid
	for i := range n {
		list = append(list, moved(ahead(), impl.Point{0, float32(3 * i), 0}))
	}
	return list
}

func TestCheckOrder(t *testing.T) {
	bar := impl.Scene{Camera: impl.Camera{Eye: eyeOfBars, Up: impl.Point{0, 0, 1}, Far: 2, Near: 0.5}, Solids: bars()}
	three, six := sceneOf(lined(3)...), sceneOf(lined(6)...)
	same0 := sceneOf(ahead(), ahead())
	for name, c := range map[string]struct {
		x     impl.Scene
		order []int64
		i, k  int64
		code  int64
	}{
		"no solids": {sceneOf(), nil, 0, 0, codeNotFound},
		"empty":     {sceneOf(), []int64{}, 0, 0, codeNotFound},
		"one":       {sceneOf(ahead()), []int64{0}, 0, 0, codeNotFound},
		// The last one is the farthest: it is drawn first.
		"two":          {sceneOf(lined(2)...), []int64{1, 0}, 0, 0, codeNotFound},
		"two, wrong":   {sceneOf(lined(2)...), []int64{0, 1}, 0, 1, codeOK},
		"three":        {three, []int64{2, 1, 0}, 0, 0, codeNotFound},
		"three, 0 1":   {three, []int64{1, 2, 0}, 0, 1, codeOK},
		"three, 1 2":   {three, []int64{2, 0, 1}, 1, 2, codeOK},
		"three, 0 2":   {three, []int64{1, 0, 2}, 0, 2, codeOK},
		"three, 0 1 2": {three, []int64{0, 1, 2}, 0, 1, codeOK},
		"three, 0 2 1": {three, []int64{0, 2, 1}, 0, 1, codeOK},
		"six":          {six, []int64{5, 4, 3, 2, 1, 0}, 0, 0, codeNotFound},
		"six, 4 5":     {six, []int64{5, 4, 3, 2, 0, 1}, 4, 5, codeOK},
		"six, 0 5":     {six, []int64{4, 3, 2, 1, 0, 5}, 0, 5, codeOK},
		"six, 1 4":     {six, []int64{5, 3, 2, 1, 4, 0}, 1, 4, codeOK},
		// The lesser place decides, and not how near both places are.
		"0 3 ahead of 1 2": {sceneOf(lined(4)...), []int64{2, 0, 1, 3}, 0, 3, codeOK},
		// Two that have no answer may not be drawn in either order.
		"neither way":       {same0, []int64{0, 1}, 0, 1, codeOK},
		"nor the other way": {same0, []int64{1, 0}, 0, 1, codeOK},
		"neither, later":    {sceneOf(moved(ahead(), impl.Point{0, 9, 0}), ahead(), ahead()), []int64{0, 2, 1}, 1, 2, codeOK},
		// Of the three bars no order is right, but there is one for each two of them.
		"bars 1 0 2": {bar, []int64{1, 0, 2}, 0, 2, codeOK},
		"bars 0 2 1": {bar, []int64{0, 2, 1}, 0, 2, codeOK},
		"bars 2 1 0": {bar, []int64{2, 1, 0}, 0, 2, codeOK},
		"bars 0 1 2": {bar, []int64{0, 1, 2}, 0, 1, codeOK},
		"bars 1 2 0": {bar, []int64{1, 2, 0}, 0, 1, codeOK},
		"bars 2 0 1": {bar, []int64{2, 0, 1}, 0, 1, codeOK},
		// Not each index once.
		"twice":         {three, []int64{2, 1, 1}, 0, 0, codeRange},
		"twice, first":  {three, []int64{2, 2, 0}, 0, 0, codeRange},
		"out of range":  {three, []int64{3, 1, 0}, 0, 0, codeRange},
		"negative":      {three, []int64{2, 1, -1}, 0, 0, codeRange},
		"wrapped":       {three, []int64{2, 1, 1 << 32}, 0, 0, codeRange},
		"greatest":      {three, []int64{math.MaxInt64, 1, 0}, 0, 0, codeRange},
		"least":         {three, []int64{2, math.MinInt64, 0}, 0, 0, codeRange},
		"missing":       {three, []int64{2, 1}, 0, 0, codeRange},
		"missing, 1":    {three, []int64{2, 0}, 0, 0, codeRange},
		"too many":      {three, []int64{2, 1, 0, 0}, 0, 0, codeRange},
		"too many, 3":   {three, []int64{3, 2, 1, 0}, 0, 0, codeRange},
		"nothing":       {three, nil, 0, 0, codeRange},
		"no solids, 0":  {sceneOf(), []int64{0}, 0, 0, codeRange},
		"wrong, too":    {three, []int64{0, 1, 1}, 0, 0, codeRange},
		"neither, none": {same0, []int64{0, 0}, 0, 0, codeRange},
	} {
		same(t, name, all(impl.CheckOrder(c.x, c.order)), all(c.i, c.k, c.code))
	}
}

// It is the one with the lesser index whose planes are asked first, whichever is drawn first.
func TestCheckOrderOfSolidsThatMayBeDrawnEitherWay(t *testing.T) {
	// Each one would say of itself that it comes first: see TestDrawnFirstAsksPlanesInOrder.
	s, other := at(0, 0, 0), at(2, 2, 0)
	c := with(func(c *impl.Camera) { c.Eye, c.At = impl.Point{1.5, 0.5, 0}, impl.Point{1.5, 5, 0} })
	for _, list := range [][]impl.Solid{{s, other}, {other, s}} {
		x := impl.Scene{Camera: c, Solids: list}
		same(t, "0 1", all(impl.CheckOrder(x, []int64{0, 1})), all(int64(0), int64(0), codeNotFound))
		same(t, "1 0", all(impl.CheckOrder(x, []int64{1, 0})), all(int64(0), int64(1), codeOK))
	}
	// Nothing of these hides anything of the other, but they have one answer each.
	apart := []impl.Solid{at(6, 4, 0), at(-6, 4, 0)}
	first, _ := impl.DrawnFirst(apart[0], apart[1], impl.Point{})
	x := sceneOf(apart...)
	same(t, "right", all(impl.CheckOrder(x, []int64{first, 1 - first})), all(int64(0), int64(0), codeNotFound))
	same(t, "wrong", all(impl.CheckOrder(x, []int64{1 - first, first})), all(int64(0), int64(1), codeOK))
}

func TestMoveInScene(t *testing.T) {
	x := sceneOf(lined(3)...)
	for solid := range int64(3) {
		want := sceneOf(lined(3)...)
		want.Solids[solid] = moved(want.Solids[solid], impl.Point{1, 2, -3})
		same(t, "MoveInScene", all(impl.MoveInScene(x, solid, impl.Point{1, 2, -3})), all(want, codeOK))
	}
	same(t, "nowhere", all(impl.MoveInScene(x, 1, impl.Point{})), all(x, codeOK))
	// -0 becomes 0 when 0 is added to it, but not if it is -0 that is added.
	zeros := sceneOf(scaled(cube(), impl.Point{-1, -1, 1}))
	want := sceneOf(moved(zeros.Solids[0], impl.Point{}))
	same(t, "zeros", all(impl.MoveInScene(zeros, 0, impl.Point{})), all(want, codeOK))
	same(t, "-0", all(impl.MoveInScene(zeros, 0, impl.Point{minusZero, minusZero, minusZero})), all(zeros, codeOK))
	if row(zeros) == row(want) {
		t.Error("there are no zeros of both signs")
	}
	// Into another one, or around the eye, or behind it: solids may be anywhere.
	for _, by := range []impl.Point{{0, 3, 0}, {0, 1.5, 0}, {0, -5, 0}, {0, -100, 0}, {900000, 0, 0}} {
		want := sceneOf(lined(3)...)
		want.Solids[0] = moved(want.Solids[0], by)
		same(t, "MoveInScene "+row(by), all(impl.MoveInScene(x, 0, by)), all(want, codeOK))
	}
}

func TestMoveInSceneErrors(t *testing.T) {
	x := sceneOf(lined(3)...)
	for _, solid := range []int64{-1, 3, 4, 1 << 32, math.MaxInt64, math.MinInt64} {
		same(t, "no such solid", all(impl.MoveInScene(x, solid, impl.Point{})), all(impl.Scene{}, codeRange))
		// ErrInvalid is ahead of ErrRange, and this ahead of ErrState.
		same(t, "no such solid, nor way", all(impl.MoveInScene(x, solid, impl.Point{nan, 0, 0})), all(impl.Scene{}, codeInvalid))
		same(t, "no such solid, too far", all(impl.MoveInScene(x, solid, impl.Point{impl.MaxSize, 0, 0})), all(impl.Scene{}, codeRange))
	}
	same(t, "no solids", all(impl.MoveInScene(sceneOf(), 0, impl.Point{})), all(impl.Scene{}, codeRange))
	// Its numbers would no longer be plain.
	most := impl.MaxSize - float32(1)
	for _, c := range []struct {
		by   impl.Point
		code int64
	}{
		{impl.Point{impl.MaxSize, 0, 0}, codeState}, {impl.Point{0, -impl.MaxSize, 0}, codeOK}, {impl.Point{0, impl.MaxSize, 0}, codeState},
		{impl.Point{most, 0, 0}, codeOK}, {impl.Point{above(most), 0, 0}, codeState}, {impl.Point{-most, 0, most}, codeOK}, {impl.Point{-most, 0, above(most)}, codeState},
		{impl.Point{0, impl.MaxSize - 6, 0}, codeOK}, {impl.Point{0, above(impl.MaxSize - 6), 0}, codeState},
	} {
		got, code := impl.MoveInScene(x, 0, c.by)
		want, wantCode := wantMoveInScene(x, 0, c.by)
		same(t, "MoveInScene "+row(c.by), all(got, code), all(want, wantCode))
		same(t, "MoveInScene "+row(c.by), all(code), all(c.code))
	}
}

// leaning is a box with a leaning face above, of which a small part at one corner, the face 6, leans a little more.
func leaning() impl.Solid {
	return impl.Solid{
		Corners: []impl.Point{{0, 0, 0}, {20, 0, 0}, {20, 20, 0}, {0, 20, 0}, {0, 0, 10}, {20, 0, 16}, {20, 19.9, 19.98}, {20, 20, 19.9999}, {19.9, 20, 19.97}, {0, 20, 14}},
		Faces:   [][]int16{{3, 2, 1, 0}, {0, 1, 5, 4}, {1, 2, 7, 6, 5}, {2, 3, 9, 8, 7}, {3, 0, 4, 9}, {9, 4, 5, 6, 8}, {6, 7, 8}},
	}
}

// Far away corners are told less exactly: a solid may be valid still, but no longer convex.
func TestMoveInSceneOfSolidsThatDoNotStayConvex(t *testing.T) {
	found, by := map[string]int{}, impl.Point{0, 0, 8200}
	for i := range 400 {
		s := moved(leaning(), impl.Point{0, 0, float32(i) / 8192})
		far := moved(s, by)
		for k, x := range []impl.Scene{sceneOf(s, ahead()), sceneOf(ahead(), s)} {
			got, code := impl.MoveInScene(x, int64(k), by)
			x.Solids[k] = far
			switch {
			case !wantValid(far):
				found["not valid"]++
				same(t, "not valid", all(got, code), all(impl.Scene{}, codeState))
			case !wantConvex(far):
				found["not convex"]++
				same(t, "not convex", all(got, code), all(impl.Scene{}, codeState))
				_, movedCode := impl.MoveSolid(s, by)
				same(t, "MoveSolid", all(movedCode), all(codeOK))
			default:
				found["convex"]++
				same(t, "convex", all(got, code), all(x, codeOK))
			}
		}
	}
	if found["not convex"] < 20 || found["convex"] < 20 {
		t.Errorf("too few solids were of one kind: %v", found)
	}
}

// The scene that is returned has memory of its own, in all of its solids.
func TestMovedScenesShareNothing(t *testing.T) {
	x := sceneOf(lined(3)...)
	y, _ := impl.MoveInScene(x, 1, impl.Point{1, 0, 0})
	for i := range y.Solids {
		y.Solids[i].Corners[0] = everywhere(7)
		for _, loop := range y.Solids[i].Faces {
			loop[0] = 7
		}
		y.Solids[i].Faces[1] = nil
	}
	same(t, "the scene", all(x), all(sceneOf(lined(3)...)))
	// No loop reaches into another one, either.
	y, _ = impl.MoveInScene(x, 1, impl.Point{})
	for i, s := range y.Solids {
		for face, loop := range s.Faces {
			_ = append(loop, 99)
			same(t, "a loop", all(y.Solids[i].Faces), all(x.Solids[i].Faces))
			_ = append(y.Solids[i].Faces[:face], slices.Clone(loop))
		}
		_ = append(s.Corners, everywhere(99))
	}
	same(t, "the scene", all(y), all(x))
}
