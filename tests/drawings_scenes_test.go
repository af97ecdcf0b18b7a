package tests

import (
	"math"
	"slices"
	"testing"

	"loop.example/g01249/impl"
)

// ahead is a box that the camera straight sees from the front: just its face 2 looks to the eye.
func ahead() impl.Solid { return box(impl.Point{-1, 4, -1}, impl.Point{1, 6, 1}) }

// aside is a box of which it sees three faces.
func aside() impl.Solid { return box(impl.Point{1, 4, 1}, impl.Point{3, 6, 3}) }

// farSighted is the camera straight with so great a Far that spots need not be plain.
func farSighted() impl.Camera { return with(func(c *impl.Camera) { c.Far = impl.MaxSize }) }

// shard has a corner that is less deep than Near; a face without this corner looks to the eye, and so does one with it.
// It is told which of these comes first.
func shard(behindFirst bool) impl.Solid {
	s := impl.Solid{
		Corners: []impl.Point{{4, 0.25, 0}, {2, 1, -1}, {2, 1, 1}, {2, 3, 0}},
		Faces:   [][]int16{{1, 2, 3}, {2, 1, 0}, {3, 2, 0}, {1, 3, 0}},
	}
	if behindFirst {
		s.Faces[0], s.Faces[1] = s.Faces[1], s.Faces[0]
	}
	return s
}

// outlineOf draws the sides of a loop.
func outlineOf(loop ...impl.Mark) impl.Sheet {
	g := &grid{}
	g.sides(loop, true)
	return g.sheet()
}

func TestMarkOf(t *testing.T) {
	for _, c := range []struct {
		s     impl.Spot
		scale float32
		want  impl.Mark
	}{
		{impl.Spot{1, 2}, 4, impl.Mark{36, 24}},
		{impl.Spot{0, 0}, 4, impl.Mark{32, 32}},
		{impl.Spot{1, 2}, 0, impl.Mark{32, 32}},
		{impl.Spot{minusZero, minusZero}, 7, impl.Mark{32, 32}},
		{impl.Spot{1, 2}, minusZero, impl.Mark{32, 32}},
		{impl.Spot{1, 2}, -4, impl.Mark{28, 40}},
		{impl.Spot{-1, -2}, 4, impl.Mark{28, 40}},
		{impl.Spot{-1, 2}, 3, impl.Mark{29, 26}},
		// Halves go up, before the second number is taken away.
		{impl.Spot{0.5, 0.5}, 1, impl.Mark{33, 31}},
		{impl.Spot{-0.5, -0.5}, 1, impl.Mark{32, 32}},
		{impl.Spot{1.5, 1.5}, 1, impl.Mark{34, 30}},
		{impl.Spot{-1.5, -1.5}, 1, impl.Mark{31, 33}},
		{impl.Spot{2.5, -2.5}, 1, impl.Mark{35, 34}},
		{impl.Spot{1, -1}, 0.5, impl.Mark{33, 32}},
		{impl.Spot{0.25, 0.75}, -2, impl.Mark{32, 33}},
		// Nearly halves.
		{impl.Spot{above(0.5), above(-0.5)}, 1, impl.Mark{33, 32}},
		{impl.Spot{below(-0.5), below(-0.5)}, 1, impl.Mark{31, 33}},
		{impl.Spot{below(1.5), below(1.5)}, 1, impl.Mark{33, 31}},
		{impl.Spot{below(-1.5), above(-1.5)}, 1, impl.Mark{30, 33}},
		// The sum is narrow: what is just less than 0.5 becomes 1, and so does a product that is rounded to 0.5.
		{impl.Spot{below(0.5), below(below(0.5))}, 1, impl.Mark{33, 32}},
		{impl.Spot{0.1, -0.1}, 5, impl.Mark{33, 32}},
		{impl.Spot{0x1p-30, -0x1p-30}, 1, impl.Mark{32, 32}},
		{impl.Spot{tiniest, -tiniest}, 1, impl.Mark{32, 32}},
		{impl.Spot{tiniest, -tiniest}, tiniest, impl.Mark{32, 32}},
		// As far as marks are valid, and farther.
		{impl.Spot{467, 531}, 1, impl.Mark{499, -499}},
		{impl.Spot{468, 532}, 1, impl.Mark{500, -500}},
		{impl.Spot{469, 533}, 1, impl.Mark{500, -500}},
		{impl.Spot{467.5, 531.5}, 1, impl.Mark{500, -500}},
		{impl.Spot{-531, -467}, 1, impl.Mark{-499, 499}},
		{impl.Spot{-532, -468}, 1, impl.Mark{-500, 500}},
		{impl.Spot{-533, -469}, 1, impl.Mark{-500, 500}},
		{impl.Spot{-531.5, -467.5}, 1, impl.Mark{-499, 499}},
		{impl.Spot{40000, 40000}, 1, impl.Mark{500, -500}},
		{impl.Spot{65536, -65536}, 1, impl.Mark{500, 500}},
		{impl.Spot{1000, -1000}, 1000, impl.Mark{500, 500}},
		{impl.Spot{impl.MaxSize, -impl.MaxSize}, impl.MaxSize, impl.Mark{500, 500}},
		{impl.Spot{impl.MaxSize, -impl.MaxSize}, -impl.MaxSize, impl.Mark{-500, -500}},
		{impl.Spot{32768, 65537}, 65536, impl.Mark{500, -500}},
	} {
		same(t, "MarkOf "+row(c.s, c.scale), all(impl.MarkOf(c.s, c.scale)), all(c.want, codeOK))
	}
	for _, a := range wildNumbers {
		for _, s := range []impl.Spot{{a, 1}, {1, a}, {a, a}} {
			for _, scale := range []float32{1, 0, a} {
				same(t, "MarkOf "+row(s, scale), all(impl.MarkOf(s, scale)), all(impl.Mark{}, codeInvalid))
			}
		}
		same(t, "MarkOf "+row(a), all(impl.MarkOf(impl.Spot{1, 2}, a)), all(impl.Mark{}, codeInvalid))
		same(t, "MarkOf "+row(a), all(impl.MarkOf(impl.Spot{0, 0}, a)), all(impl.Mark{}, codeInvalid))
	}
}

func TestLoopOf(t *testing.T) {
	for _, c := range []struct {
		camera impl.Camera
		s      impl.Solid
		face   int64
		scale  float32
		want   []impl.Mark
	}{
		{straight, ahead(), 2, 20, []impl.Mark{{22, 42}, {42, 42}, {42, 22}, {22, 22}}},
		// 20 thirds are nearly 7.
		{straight, ahead(), 3, 20, []impl.Mark{{25, 39}, {25, 25}, {39, 25}, {39, 39}}},
		{straight, ahead(), 0, 20, []impl.Mark{{22, 42}, {22, 22}, {25, 25}, {25, 39}}},
		{straight, aside(), 2, 16, []impl.Mark{{40, 24}, {56, 24}, {56, 8}, {40, 8}}},
		{straight, aside(), 4, 16, []impl.Mark{{40, 24}, {37, 27}, {48, 27}, {56, 24}}},
		{straight, ahead(), 2, -20, []impl.Mark{{42, 22}, {22, 22}, {22, 42}, {42, 42}}},
		{straight, ahead(), 2, 0, []impl.Mark{{32, 32}, {32, 32}, {32, 32}, {32, 32}}},
		// Halves: 1, and -1 is 0.
		{straight, ahead(), 2, 1, []impl.Mark{{32, 32}, {33, 32}, {33, 31}, {32, 31}}},
		{straight, ahead(), 2, impl.MaxSize, []impl.Mark{{-500, 500}, {500, 500}, {500, -500}, {-500, -500}}},
		// A face is just as deep as Near, or all spots are just plain.
		{straight, box(impl.Point{-1, 0.5, -1}, impl.Point{1, 4, 1}), 2, 4, []impl.Mark{{16, 48}, {48, 48}, {48, 16}, {16, 16}}},
		{farSighted(), box(impl.Point{-1, 1, -1}, impl.Point{1, 2, 1}), 2, 0.0001, []impl.Mark{{-68, 132}, {132, 132}, {132, -68}, {-68, -68}}},
		// The other faces of the solid are not looked at, nor whether it is convex.
		{straight, box(impl.Point{-1, -4, -1}, impl.Point{1, 4, 1}), 3, 20, []impl.Mark{{22, 42}, {22, 22}, {42, 22}, {42, 42}}},
		{straight, moved(angle(), impl.Point{0, 4, 0}), 0, 20, []impl.Mark{{32, 32}, {39, 32}, {40, 32}, {48, 32}, {52, 32}, {32, 32}}},
	} {
		same(t, "LoopOf "+row(c.camera, c.s, c.face, c.scale), all(impl.LoopOf(c.camera, c.s, c.face, c.scale)), all(c.want, codeOK))
	}
}

func TestLoopOfErrors(t *testing.T) {
	var none []impl.Mark
	far := farSighted()
	for name, c := range map[string]struct {
		camera impl.Camera
		s      impl.Solid
		face   int64
		want   int64
	}{
		"no face -1":        {straight, ahead(), -1, codeRange},
		"no face 6":         {straight, ahead(), 6, codeRange},
		"no face, greatest": {straight, ahead(), math.MaxInt64, codeRange},
		"no face, least":    {straight, ahead(), math.MinInt64, codeRange},
		"no face, wrapped":  {straight, ahead(), 1 << 32, codeRange},
		"behind":            {straight, moved(ahead(), impl.Point{0, -10, 0}), 2, codeNotFound},
		"a corner behind":   {straight, shard(true), 0, codeNotFound},
		"just too near":     {straight, box(impl.Point{-1, below(0.5), -1}, impl.Point{1, 4, 1}), 2, codeNotFound},
		"no face behind":    {straight, moved(ahead(), impl.Point{0, -10, 0}), 6, codeRange},
		"not plain":         {far, box(impl.Point{-4, 1, -1}, impl.Point{4, 3, 1}), 2, codeState},
		"not plain, above":  {far, box(impl.Point{-1, 1, -1}, impl.Point{1, 3, 4}), 2, codeState},
		"one not plain":     {far, shard(false), 0, codeState},
		// A corner that is behind counts, also if one before it has a spot that is not plain.
		"behind first":        {far, box(impl.Point{2, 0.25, -1}, impl.Point{3, 1, 1}), 0, codeNotFound},
		"not plain first":     {far, impl.Solid{Corners: cornersOf([]impl.Solid{box(impl.Point{2, 0.25, -1}, impl.Point{3, 1, 1})})[0], Faces: [][]int16{{6, 2, 0, 4}, {1, 3, 7, 5}, {0, 1, 5, 4}, {2, 6, 7, 3}, {0, 2, 3, 1}, {4, 5, 7, 6}}}, 0, codeNotFound},
		"not plain, no face":  {far, shard(false), 4, codeRange},
		"not plain, no scale": {far, shard(false), 0, codeState},
	} {
		same(t, "LoopOf "+name, all(impl.LoopOf(c.camera, c.s, c.face, 1)), all(none, c.want))
		same(t, "LoopOf, 0 "+name, all(impl.LoopOf(c.camera, c.s, c.face, 0)), all(none, c.want))
		for _, scale := range wildNumbers {
			same(t, "LoopOf "+name+row(scale), all(impl.LoopOf(c.camera, c.s, c.face, scale)), all(none, codeInvalid))
		}
	}
}

// Cameras, solids and scales that are not valid are ErrInvalid, ahead of all other errors.
func TestScenesThatAreNotValid(t *testing.T) {
	var none []impl.Mark
	bad := func(name string, c impl.Camera, s impl.Solid, scale float32) {
		for _, face := range []int64{0, -1, 16} {
			same(t, "LoopOf "+name, all(impl.LoopOf(c, s, face, scale)), all(none, codeInvalid))
		}
		same(t, "DrawSolid "+name, all(impl.DrawSolid(fullSheet(), c, s, scale)), all(impl.Sheet{}, codeInvalid))
		for _, list := range [][]impl.Solid{{s}, {ahead(), s}, {s, angle()}, {angle(), s}, append(slices.Repeat([]impl.Solid{ahead()}, 7), s)} {
			same(t, "DrawScene "+name, all(impl.DrawScene(c, list, scale)), all(impl.Sheet{}, codeInvalid))
		}
	}
	for name, s := range badSolids() {
		bad(name, straight, s, 1)
		bad(name, farSighted(), s, 1)
	}
	for _, c := range badCameras() {
		bad(row(c), c, ahead(), 1)
		bad(row(c), c, angle(), 1)
		same(t, "DrawScene of nothing "+row(c), all(impl.DrawScene(c, nil, 1)), all(impl.Sheet{}, codeInvalid))
	}
	for _, scale := range wildNumbers {
		bad(row(scale), straight, ahead(), scale)
		bad(row(scale), straight, angle(), scale)
		bad(row(scale), straight, moved(ahead(), impl.Point{0, -10, 0}), scale)
		same(t, "DrawScene of nothing "+row(scale), all(impl.DrawScene(straight, nil, scale)), all(impl.Sheet{}, codeInvalid))
	}
}

func TestDrawSolid(t *testing.T) {
	square := outlineOf(impl.Mark{22, 42}, impl.Mark{42, 42}, impl.Mark{42, 22}, impl.Mark{22, 22})
	got, code := impl.DrawSolid(impl.Sheet{}, straight, ahead(), 20)
	same(t, "a square", all(got, impl.CountInk(got), code), all(square, int64(80), codeOK))
	// What was in it is gone, and what was around it stays.
	got, code = impl.DrawSolid(fullSheet(), straight, ahead(), 20)
	same(t, "a square in ink", all(impl.CountInk(got), code), all(int64(4096-19*19), codeOK))
	for y := range int16(64) {
		for i := range int16(64) {
			if impl.HasInk(got, impl.Mark{i, y}) == (i > 22 && i < 42 && y > 22 && y < 42) {
				t.Errorf("the mark %d, %d is wrong", i, y)
			}
		}
	}
	// Three faces have nine sides; the corner behind them, 3, 6, 3, is not drawn.
	corners := []impl.Mark{{40, 24}, {56, 24}, {37, 27}, {48, 27}, {40, 8}, {56, 8}, {37, 16}}
	var list []impl.Stroke
	for _, side := range [][2]int{{0, 1}, {1, 5}, {5, 4}, {4, 0}, {4, 6}, {6, 2}, {2, 0}, {2, 3}, {3, 1}} {
		list = append(list, from(corners[side[0]], corners[side[1]]))
	}
	want, _ := impl.DrawStrokes(impl.Sheet{}, list)
	same(t, "three faces", all(impl.DrawSolid(impl.Sheet{}, straight, aside(), 16)), all(want, codeOK))
	got, code = impl.DrawSolid(fullSheet(), straight, aside(), 16)
	for _, at := range []impl.Mark{{48, 16}, {55, 9}, {38, 18}, {38, 24}, {45, 25}, {47, 26}} {
		same(t, "in a face "+row(at), all(impl.HasInk(got, at), code), all(false, codeOK))
	}
	for _, at := range append(corners, impl.Mark{36, 20}, impl.Mark{57, 16}, impl.Mark{55, 27}, impl.Mark{38, 8}) {
		same(t, "in no face "+row(at), all(impl.HasInk(got, at)), all(true))
	}
	// Behind the sheet's edges there is nothing, but its sides are seen as far as they lie on it.
	same(t, "too large", all(impl.DrawSolid(fullSheet(), straight, ahead(), 1000)), all(impl.Sheet{}, codeOK))
	same(t, "beside", all(impl.DrawSolid(fullSheet(), straight, moved(ahead(), impl.Point{8, 0, 0}), 20)), all(fullSheet(), codeOK))
	// A scale of 0 makes one mark of all, and a negative one the same square here.
	same(t, "a mark", all(impl.DrawSolid(impl.Sheet{}, straight, ahead(), 0)), all(impl.Sheet{32: 1 << 32}, codeOK))
	same(t, "negative", all(impl.DrawSolid(impl.Sheet{}, straight, ahead(), -20)), all(square, codeOK))
}

func TestDrawSolidWithoutFacesThatLook(t *testing.T) {
	// The eye is inside: nothing is drawn, and no face is asked where it is seen.
	for _, x := range []impl.Sheet{{}, fullSheet(), inked("#.#", ".#")} {
		same(t, "inside", all(impl.DrawSolid(x, straight, box(everywhere(-9), everywhere(9)), 20)), all(x, codeOK))
		same(t, "inside, far", all(impl.DrawSolid(x, farSighted(), box(everywhere(-9), everywhere(9)), 20)), all(x, codeOK))
		same(t, "inside, a scene", all(impl.DrawScene(straight, []impl.Solid{box(everywhere(-9), everywhere(9))}, 20)), all(impl.Sheet{}, codeOK))
	}
}

func TestDrawSolidErrors(t *testing.T) {
	x := fullSheet()
	for name, c := range map[string]struct {
		camera impl.Camera
		s      impl.Solid
		want   int64
	}{
		"not convex":         {straight, moved(angle(), impl.Point{0, 4, 0}), codeState},
		"not convex, behind": {straight, moved(angle(), impl.Point{0, -9, 0}), codeState},
		"notched":            {straight, notched(), codeState},
		"behind":             {straight, moved(ahead(), impl.Point{0, -10, 0}), codeNotFound},
		"beneath":            {straight, box(impl.Point{-1, 0.25, 1}, impl.Point{1, 4, 2}), codeNotFound},
		"not plain":          {farSighted(), box(impl.Point{-4, 1, -1}, impl.Point{4, 3, 1}), codeState},
		// The error of the first face that has one.
		"not plain first": {farSighted(), shard(false), codeState},
		"behind first":    {farSighted(), shard(true), codeNotFound},
		"behind alone":    {straight, shard(false), codeNotFound},
	} {
		same(t, "DrawSolid "+name, all(impl.DrawSolid(x, c.camera, c.s, 20)), all(impl.Sheet{}, c.want))
		same(t, "DrawScene "+name, all(impl.DrawScene(c.camera, []impl.Solid{c.s}, 20)), all(impl.Sheet{}, c.want))
	}
	// So small a solid counts as convex, whatever it looks like.
	small := moved(tiny(angle()), impl.Point{0, 4, 0})
	got, code := impl.DrawSolid(impl.Sheet{}, straight, small, 20)
	same(t, "tiny", all(impl.HasInk(got, impl.Mark{32, 32}), code), all(true, codeOK))
}

func TestDrawScene(t *testing.T) {
	for _, none := range [][]impl.Solid{nil, {}} {
		same(t, "nothing", all(impl.DrawScene(straight, none, 20)), all(impl.Sheet{}, codeOK))
	}
	for _, s := range []impl.Solid{ahead(), aside()} {
		want, code := impl.DrawSolid(impl.Sheet{}, straight, s, 16)
		same(t, "one", all(impl.DrawScene(straight, []impl.Solid{s}, 16)), all(want, code))
	}
	// A small box ahead of a great one hides a part of its outline, in whatever order they are told.
	front, back := box(impl.Point{0, 2, 0}, impl.Point{1, 2.5, 1}), box(impl.Point{-2, 8, -2}, impl.Point{2, 9, 2})
	first, _ := impl.DrawSolid(impl.Sheet{}, straight, back, 40)
	want, _ := impl.DrawSolid(first, straight, front, 40)
	for _, list := range [][]impl.Solid{{front, back}, {back, front}} {
		got, code := impl.DrawScene(straight, list, 40)
		same(t, "two", all(got, code), all(want, codeOK))
		for at, ink := range map[impl.Mark]bool{
			// The great one has its left and lower side, but not its corner at 52, 12, behind the small one.
			{12, 12}: true, {12, 52}: true, {52, 52}: true, {12, 30}: true, {20, 12}: true, {52, 40}: true,
			{52, 12}: false, {40, 12}: false, {52, 20}: false,
			{32, 32}: true, {32, 10}: true, {50, 32}: true, {40, 20}: false,
		} {
			same(t, "mark "+row(at), all(impl.HasInk(got, at)), all(ink))
		}
	}
}

func TestDrawSceneErrors(t *testing.T) {
	lined := func(n int) []impl.Solid {
		var list []impl.Solid
		for i := range n {
			list = append(list, moved(ahead(), impl.Point{0, float32(3 * i), 0}))
		}
		return list
	}
	c := impl.Camera{Eye: eyeOfBars, Up: impl.Point{0, 0, 1}, Far: 2, Near: 0.5}
	turnedAway := c
	turnedAway.At = impl.Point{20, 20, 20}
	uneven := moved(angle(), impl.Point{0, 40, 0})
	for name, s := range map[string]struct {
		camera impl.Camera
		list   []impl.Solid
		want   int64
	}{
		"six":                     {straight, lined(6), codeOK},
		"seven":                   {straight, lined(7), codeRange},
		"seven, one not convex":   {straight, append(lined(6), uneven), codeRange},
		"seven, all the same":     {straight, slices.Repeat(lined(1), 7), codeRange},
		"not convex":              {straight, append(lined(2), uneven), codeState},
		"not convex, no answer":   {straight, []impl.Solid{ahead(), ahead(), uneven}, codeState},
		"no answer":               {straight, []impl.Solid{ahead(), ahead()}, codeNotFound},
		"no order":                {c, bars(), codeState},
		"no order, behind":        {turnedAway, bars(), codeState},
		"no answer, not plain":    {farSighted(), slices.Repeat([]impl.Solid{shard(false)}, 2), codeNotFound},
		"behind":                  {turnedAway, bars()[:2], codeNotFound},
		"one behind":              {straight, append(lined(2), moved(ahead(), impl.Point{0, -12, 0})), codeNotFound},
		"one not plain":           {farSighted(), []impl.Solid{ahead(), box(impl.Point{20, 4, 0}, impl.Point{21, 5, 1})}, codeState},
		"the one not plain first": {farSighted(), []impl.Solid{box(impl.Point{20, 4, 0}, impl.Point{21, 5, 1}), ahead()}, codeState},
	} {
		got, code := impl.DrawScene(s.camera, s.list, 20)
		if code != s.want || code != impl.OK && got != (impl.Sheet{}) {
			t.Errorf("DrawScene %s: got %s, want the code %d", name, row(got, code), s.want)
		}
	}
}

// The solids are drawn in their order: the error is that of the first one that is drawn and has one.
func TestDrawSceneErrorsComeInTheOrderOfDrawing(t *testing.T) {
	c := farSighted()
	notPlain, behind := box(impl.Point{2, 1, -1}, impl.Point{3, 2, 1}), box(impl.Point{-1, -3, -1}, impl.Point{1, -2, 1})
	for i, list := range [][]impl.Solid{{notPlain, behind}, {behind, notPlain}} {
		same(t, "OrderSolids", all(impl.OrderSolids(list, c.Eye)), all([]int64{int64(i), int64(1 - i)}, codeOK))
		same(t, "DrawScene", all(impl.DrawScene(c, list, 1)), all(impl.Sheet{}, codeState))
	}
}
