package tests

import (
	"slices"
	"testing"

	"loop.example/g01249/impl"
)

func at(x, y, z float32) impl.Solid { return moved(cube(), impl.Point{x, y, z}) }

func TestDrawnFirst(t *testing.T) {
	const little = 1.0 / 64
	for name, c := range map[string]struct {
		s, t  impl.Solid
		eye   impl.Point
		first int64
		code  int64
	}{
		// The second one lies behind the first one, or before it, or the eye is between both.
		"behind":  {at(0, 0, 0), at(-3, 0, 0), impl.Point{5, 0, 0}, 1, codeOK},
		"before":  {at(0, 0, 0), at(3, 0, 0), impl.Point{5, 0, 0}, 0, codeOK},
		"between": {at(0, 0, 0), at(3, 0, 0), impl.Point{2, 0, 0}, 0, codeOK},
		// The eye is just in the plane, or just on one side of it.
		"in the plane":   {at(0, 0, 0), at(3, 0, 0), impl.Point{1, 7, 0}, 1, codeOK},
		"outside of it":  {at(0, 0, 0), at(3, 0, 0), impl.Point{above(1), 7, 0}, 0, codeOK},
		"inside of it":   {at(0, 0, 0), at(3, 0, 0), impl.Point{below(1), 7, 0}, 1, codeOK},
		"in the first":   {at(0, 0, 0), at(3, 0, 0), impl.Point{0.5, 0.5, 0.5}, 1, codeOK},
		"in the second":  {at(0, 0, 0), at(3, 0, 0), impl.Point{3.5, 0.5, 0.5}, 0, codeOK},
		"eye behind 0":   {at(0, 0, 0), at(-3, 0, 0), impl.Point{minusZero, 1, 1}, 1, codeOK},
		"below the eye":  {at(0, 0, 5), at(0, 0, 0), impl.Point{0, 0, 9}, 1, codeOK},
		"above the eye":  {at(0, 0, 5), at(0, 0, 0), impl.Point{0, 0, -9}, 0, codeOK},
		"aside, at left": {at(0, 3, 0), at(0, 0, 0), impl.Point{0, -9, 0}, 0, codeOK},
		// They touch, or reach a little into each other, just as far as they may, or further.
		"touch":        {at(0, 0, 0), at(1, 0, 0), impl.Point{5, 0, 0}, 0, codeOK},
		"a little":     {at(0, 0, 0), at(1-little, 0, 0), impl.Point{5, 0, 0}, 0, codeOK},
		"a little, -":  {at(0, 0, 0), at(-1+little, 0, 0), impl.Point{5, 0, 0}, 1, codeOK},
		"further":      {at(0, 0, 0), at(below(1-little), 0, 0), impl.Point{5, 0, 0}, 0, codeNotFound},
		"the same":     {at(0, 0, 0), at(0, 0, 0), impl.Point{5, 0, 0}, 0, codeNotFound},
		"in it":        {at(0, 0, 0), scaled(at(0.5, 0.5, 0.5), everywhere(0.5)), impl.Point{5, 0, 0}, 0, codeNotFound},
		"tiny in it":   {at(0, 0, 0), moved(tiny(cube()), everywhere(0.5)), impl.Point{5, 0, 0}, 0, codeNotFound},
		"just at edge": {at(0, 0, 0), at(1, 1, 0), impl.Point{5, 0.5, 0}, 0, codeOK},
	} {
		same(t, name, all(impl.DrawnFirst(c.s, c.t, c.eye)), all(c.first, c.code))
	}
}

func TestDrawnFirstAsksPlanesInOrder(t *testing.T) {
	// Two planes of s part the cubes, and say something else: the first one counts.
	s, other, eye := at(0, 0, 0), at(2, 2, 0), impl.Point{0.5, 5, 0}
	same(t, "x first", all(impl.DrawnFirst(s, other, eye)), all(int64(1), codeOK))
	s.Faces[1], s.Faces[3] = s.Faces[3], s.Faces[1]
	same(t, "y first", all(impl.DrawnFirst(s, other, eye)), all(int64(0), codeOK))
	// Those of s are asked ahead of those of t: these say something else here, too.
	s, eye = at(0, 0, 0), impl.Point{1.5, 0.5, 0}
	same(t, "of s", all(impl.DrawnFirst(s, other, eye)), all(int64(0), codeOK))
	same(t, "of t", all(impl.DrawnFirst(other, s, eye)), all(int64(0), codeOK))
}

func TestDrawnFirstAsksPlanesOfTheOther(t *testing.T) {
	// No plane of the tent parts it from the wide box above it; the lower plane of the box does.
	tent, wide := wantTent(impl.Point{-1, -1, 0}, impl.Point{1, 1, 4}), box(impl.Point{-9, -9, 4}, impl.Point{9, 9, 5})
	for _, c := range []struct {
		eye         impl.Point
		first, last int64
	}{
		{impl.Point{0, 0, 2}, 1, 0},
		{impl.Point{5, 5, -7}, 1, 0},
		{impl.Point{0, 0, 4}, 0, 1},
		{impl.Point{0, 0, below(4)}, 1, 0},
		{impl.Point{0, 0, 8}, 0, 1},
	} {
		same(t, "tent and box "+row(c.eye), all(impl.DrawnFirst(tent, wide, c.eye)), all(c.first, codeOK))
		same(t, "box and tent "+row(c.eye), all(impl.DrawnFirst(wide, tent, c.eye)), all(c.last, codeOK))
	}
	low := moved(wide, impl.Point{0, 0, -1.0 / 64})
	same(t, "a little lower", all(impl.DrawnFirst(tent, low, impl.Point{0, 0, 8})), all(int64(0), codeOK))
	low = moved(wide, impl.Point{0, 0, -1.0/64 - 0x1p-20})
	same(t, "too low", all(impl.DrawnFirst(tent, low, impl.Point{0, 0, 8})), all(int64(0), codeNotFound))
}

// bars are three bars of which each one hides a part of the next one, from the eye of the bars.
func bars() []impl.Solid {
	return []impl.Solid{
		box(impl.Point{2, 0, 1}, impl.Point{3, 3, 2}),
		box(impl.Point{1, 2, 0}, impl.Point{2, 3, 3}),
		box(impl.Point{0, 1, 2}, impl.Point{3, 2, 3}),
	}
}

var eyeOfBars = impl.Point{10, 10, 10}

func TestOrderSolids(t *testing.T) {
	eye := impl.Point{50, 0.5, 0.5}
	var lined []impl.Solid
	for _, x := range []float32{6, 0, 9, 3, 12, -3} {
		lined = append(lined, at(x, 0, 0))
	}
	var none []impl.Solid
	for name, c := range map[string]struct {
		list []impl.Solid
		eye  impl.Point
		want []int64
	}{
		"nil":    {none, eye, nil},
		"empty":  {[]impl.Solid{}, eye, nil},
		"one":    {lined[:1], eye, []int64{0}},
		"two":    {lined[:2], eye, []int64{1, 0}},
		"six":    {lined, eye, []int64{5, 1, 3, 0, 2, 4}},
		"others": {lined, impl.Point{-50, 0.5, 0.5}, []int64{4, 2, 0, 3, 1, 5}},
		// Two of the bars can be ordered.
		"bars 0 1": {bars()[:2], eyeOfBars, []int64{1, 0}},
		"bars 1 2": {bars()[1:], eyeOfBars, []int64{1, 0}},
		"bars 0 2": {[]impl.Solid{bars()[0], bars()[2]}, eyeOfBars, []int64{0, 1}},
	} {
		same(t, "OrderSolids "+name, all(impl.OrderSolids(c.list, c.eye)), all(c.want, codeOK))
	}
}

func TestOrderSolidsLimits(t *testing.T) {
	eye := impl.Point{50, 0.5, 0.5}
	var list []impl.Solid
	for i := range 8 {
		list = append(list, at(float32(2*i), 0, 0))
	}
	same(t, "six", all(impl.OrderSolids(list[:6], eye)), all([]int64{0, 1, 2, 3, 4, 5}, codeOK))
	for _, n := range []int{7, 8} {
		same(t, "more", all(impl.OrderSolids(list[:n], eye)), all([]int64{}, codeRange))
	}
	// ErrInvalid is ahead of ErrRange, and this ahead of ErrState and of ErrNotFound.
	list[7] = impl.Solid{}
	same(t, "one not valid", all(impl.OrderSolids(list, eye)), all([]int64{}, codeInvalid))
	list[7] = angle()
	same(t, "one not convex", all(impl.OrderSolids(list, eye)), all([]int64{}, codeRange))
	same(t, "all the same", all(impl.OrderSolids(slices.Repeat([]impl.Solid{cube()}, 7), eye)), all([]int64{}, codeRange))
	same(t, "six that are the same", all(impl.OrderSolids(slices.Repeat([]impl.Solid{cube()}, 6), eye)), all([]int64{}, codeNotFound))
}

func TestOrderSolidsAsksPairsInOrder(t *testing.T) {
	same(t, "three bars", all(impl.OrderSolids(bars(), eyeOfBars)), all([]int64{}, codeState))
	// Far behind the bars one may be drawn ahead of them, and is: then none may be.
	behind := at(-20, -20, -20)
	same(t, "behind the bars", all(impl.OrderSolids(append(bars(), behind), eyeOfBars)), all([]int64{}, codeState))
	// Two that have no answer, before the bars: each one is asked about the first bar, says no, and is asked no more.
	before := []impl.Solid{at(5, 5, 5), at(5.5, 5.5, 5.5)}
	same(t, "of the two", all(impl.DrawnFirst(before[0], before[1], eyeOfBars)), all(int64(0), codeNotFound))
	same(t, "bars first", all(impl.OrderSolids(append(bars(), before...), eyeOfBars)), all([]int64{}, codeState))
	// If they come first they are asked about each other.
	same(t, "bars last", all(impl.OrderSolids(append(before, bars()...), eyeOfBars)), all([]int64{}, codeNotFound))
	// Two behind the bars say yes to all of these, and then ask each other.
	two := []impl.Solid{behind, moved(behind, everywhere(0.5))}
	same(t, "bars and two behind", all(impl.OrderSolids(append(bars(), two...), eyeOfBars)), all([]int64{}, codeNotFound))
	// Of two that have no answer one is behind a third one: the order ends with the two.
	list := []impl.Solid{at(3, 0, 0), at(0, 0, 0), at(3.5, 0, 0)}
	same(t, "found at last", all(impl.OrderSolids(list, impl.Point{50, 0, 0})), all([]int64{}, codeNotFound))
	// It is the one with the lesser index whose planes are asked first, whichever comes first: both would say no of the other one.
	s, other, eye := at(0, 0, 0), at(2, 2, 0), impl.Point{1.5, 0.5, 0}
	same(t, "the lesser index", all(impl.OrderSolids([]impl.Solid{s, other}, eye)), all([]int64{0, 1}, codeOK))
	same(t, "and the greater one", all(impl.OrderSolids([]impl.Solid{other, s}, eye)), all([]int64{0, 1}, codeOK))
	// Those on both sides of an eye hide nothing of each other, and yet each one is told to come before another one.
	around := []impl.Solid{at(6, 0, 0), at(0, 0, 0), at(9, 0, 0)}
	same(t, "around the eye", all(impl.OrderSolids(around, impl.Point{5, 0.5, 0.5})), all([]int64{}, codeState))
}
