package tests

import (
	"math"
	"slices"
	"testing"

	"loop.example/g01249/impl"
)

// frame4 is a loop around a part of some rows.
func frame4(left, top, right, bottom int16) []impl.Mark {
	return []impl.Mark{{left, top}, {right, top}, {right, bottom}, {left, bottom}}
}

// inRow makes a stroke along a row.
func inRow(y, left, right int16) impl.Stroke {
	return from(impl.Mark{left, y}, impl.Mark{right, y})
}

func TestFillLoop(t *testing.T) {
	for name, c := range map[string]struct {
		loop []impl.Mark
		want impl.Sheet
	}{
		"one mark":            {[]impl.Mark{{2, 1}}, inked("", "..#")},
		"two marks":           {[]impl.Mark{{0, 0}, {4, 2}}, inked("#", ".##", "...##")},
		"two that are one":    {[]impl.Mark{{1, 1}, {1, 1}}, inked("", ".#")},
		"three on a line":     {[]impl.Mark{{0, 0}, {2, 0}, {5, 0}}, inked("######")},
		"square":              {frame4(0, 0, 4, 4), inked("#####", "#####", "#####", "#####", "#####")},
		"square elsewhere":    {frame4(2, 1, 4, 2), inked("", "..###", "..###")},
		"triangle":            {[]impl.Mark{{0, 0}, {4, 4}, {0, 4}}, inked("#", "##", "###", "####", "#####")},
		"the other way round": {[]impl.Mark{{0, 4}, {4, 4}, {0, 0}}, inked("#", "##", "###", "####", "#####")},
		"pointing down":       {[]impl.Mark{{0, 0}, {6, 0}, {3, 3}}, inked("#######", ".#####", "..###", "...#")},
		// What lies between both arms is not in it.
		"U": {[]impl.Mark{{0, 0}, {2, 0}, {2, 3}, {6, 3}, {6, 0}, {8, 0}, {8, 5}, {0, 5}}, inked(
			"###...###", "###...###", "###...###", "#########", "#########", "#########")},
		// Sides cross each other.
		"hourglass": {[]impl.Mark{{0, 0}, {6, 0}, {0, 6}, {6, 6}}, inked(
			"#######", ".#####", "..###", "...#", "..###", ".#####", "#######")},
		// The middle of a star is gone round twice.
		"star": {[]impl.Mark{{10, 0}, {16, 18}, {0, 7}, {20, 7}, {4, 18}}, starOfFive},
		// Twice around: nothing is in it, but the sides.
		"twice around": {append(frame4(0, 0, 4, 4), frame4(0, 0, 4, 4)...), inked("#####", "#...#", "#...#", "#...#", "#####")},
		"thrice around": {slices.Concat(frame4(0, 0, 4, 4), frame4(0, 0, 4, 4), frame4(0, 0, 4, 4)), inked(
			"#####", "#####", "#####", "#####", "#####")},
		"there and back": {append(frame4(0, 0, 4, 4), impl.Mark{0, 0}, impl.Mark{0, 4}, impl.Mark{4, 4}, impl.Mark{4, 0}), inked(
			"#####", "#...#", "#...#", "#...#", "#####")},
		// A loop in a loop, to which two sides lead that are one.
		"ring": {append(append(frame4(0, 0, 8, 6), impl.Mark{0, 0}), append(frame4(2, 2, 6, 4), impl.Mark{2, 2})...), inked(
			"#########", "#########", "#########", "###...###", "#########", "#########", "#########")},
		"16 marks": {[]impl.Mark{{0, 0}, {1, 0}, {2, 0}, {3, 0}, {4, 0}, {4, 1}, {4, 2}, {4, 3}, {4, 4}, {3, 4}, {2, 4}, {1, 4}, {0, 4}, {0, 3}, {0, 2}, {0, 1}}, inked(
			"#####", "#####", "#####", "#####", "#####")},
		// Most of it lies outside of the sheet.
		"corner":       {frame4(-500, -500, 1, 2), inked("##", "##", "##")},
		"other corner": {frame4(62, 63, 500, 500), impl.Sheet{63: 3 << 62}},
		"all around":   {frame4(-500, -500, 500, 500), fullSheet()},
		"just around":  {frame4(-1, -1, 64, 64), fullSheet()},
		"just all":     {frame4(0, 0, 63, 63), fullSheet()},
		"left of it":   {frame4(-500, -500, -1, 500), impl.Sheet{}},
		"right of it":  {frame4(64, -500, 500, 500), impl.Sheet{}},
		"above it":     {frame4(-500, -500, 500, -1), impl.Sheet{}},
		"below it":     {frame4(-500, 64, 500, 500), impl.Sheet{}},
		"one outside":  {[]impl.Mark{{64, 0}}, impl.Sheet{}},
		"band":         {frame4(-500, 1, 500, 2), impl.Sheet{1: math.MaxUint64, 2: math.MaxUint64}},
	} {
		same(t, "FillLoop "+name, all(impl.FillLoop(impl.Sheet{}, c.loop, true)), all(c.want, codeOK))
		same(t, "FillLoop full "+name, all(impl.FillLoop(fullSheet(), c.loop, true)), all(fullSheet(), codeOK))
		// Without ink just these have none.
		var others impl.Sheet
		for y := range others {
			others[y] = ^c.want[y]
		}
		same(t, "FillLoop empty "+name, all(impl.FillLoop(fullSheet(), c.loop, false)), all(others, codeOK))
		same(t, "FillLoop nothing "+name, all(impl.FillLoop(impl.Sheet{}, c.loop, false)), all(impl.Sheet{}, codeOK))
		same(t, "FillLoop again "+name, all(impl.FillLoop(c.want, c.loop, false)), all(impl.Sheet{}, codeOK))
	}
}

var starOfFive = inked(
	"..........#",
	"..........#",
	".........###",
	".........###",
	".........###",
	"........#####",
	"........#####",
	"#####################",
	".#######.....#######",
	"...#####.....#####",
	"....####.....####",
	"......#.......#",
	"......##.....##",
	"......####.####",
	".....###########",
	".....#####.#####",
	".....###.....###",
	"....###.......###",
	"....#...........#",
)

// A row that goes through corners crosses the sides beside them just once, or not at all, or twice.
func TestFillLoopCountsSidesThatCross(t *testing.T) {
	// The row 4 goes through the corner at 8, 4, of whose two sides it crosses just one.
	loop := []impl.Mark{{0, 0}, {16, 0}, {8, 4}, {16, 8}, {0, 8}}
	x, code := impl.FillLoop(impl.Sheet{}, loop, true)
	for _, at := range []impl.Mark{{1, 4}, {7, 4}, {8, 4}, {1, 1}, {9, 3}, {9, 5}} {
		same(t, "in it "+row(at), all(impl.HasInk(x, at), code), all(true, codeOK))
	}
	for _, at := range []impl.Mark{{10, 4}, {11, 4}, {15, 4}, {12, 3}, {12, 5}, {17, 0}, {17, 8}, {0, 9}} {
		same(t, "not in it "+row(at), all(impl.HasInk(x, at)), all(false))
	}
	// The row 4 begins at a corner, and the rows 0 and 8 end at one: none of them is in the loop beside it.
	loop = []impl.Mark{{10, 4}, {20, 0}, {20, 8}}
	x, code = impl.FillLoop(impl.Sheet{}, loop, true)
	for _, at := range []impl.Mark{{9, 4}, {0, 4}, {21, 4}, {0, 0}, {18, 0}, {0, 8}, {18, 8}} {
		same(t, "beside it "+row(at), all(impl.HasInk(x, at), code), all(false, codeOK))
	}
	same(t, "within", all(impl.HasInk(x, impl.Mark{15, 4}), impl.HasInk(x, impl.Mark{19, 1})), all(true, true))
}

func TestFillLoopLimits(t *testing.T) {
	for _, ink := range []bool{true, false} {
		for _, loop := range [][]impl.Mark{nil, {}, make([]impl.Mark, 17), make([]impl.Mark, 100)} {
			same(t, "FillLoop "+row(loop), all(impl.FillLoop(fullSheet(), loop, ink)), all(impl.Sheet{}, codeRange))
		}
	}
	for n := 1; n <= 16; n++ {
		same(t, "FillLoop "+row(int64(n)), all(impl.FillLoop(impl.Sheet{}, make([]impl.Mark, n), true)), all(inked("#"), codeOK))
	}
}

func TestHatchLoop(t *testing.T) {
	for name, c := range map[string]struct {
		loop []impl.Mark
		step int64
		want []impl.Stroke
	}{
		"square":          {frame4(0, 0, 4, 4), 1, []impl.Stroke{inRow(0, 0, 4), inRow(1, 0, 4), inRow(2, 0, 4), inRow(3, 0, 4)}},
		"one of three":    {frame4(0, 0, 4, 4), 3, []impl.Stroke{inRow(0, 0, 4), inRow(3, 0, 4)}},
		"one of four":     {frame4(0, 0, 4, 4), 4, []impl.Stroke{inRow(0, 0, 4)}},
		"one of 500":      {frame4(0, 0, 4, 4), 500, []impl.Stroke{inRow(0, 0, 4)}},
		"the other way":   {[]impl.Mark{{0, 4}, {4, 4}, {4, 0}, {0, 0}}, 2, []impl.Stroke{inRow(0, 0, 4), inRow(2, 0, 4)}},
		"between":         {frame4(0, 1, 4, 4), 5, nil},
		"multiples":       {frame4(1, 1, 3, 9), 4, []impl.Stroke{inRow(4, 1, 3), inRow(8, 1, 3)}},
		"negative":        {frame4(-2, -7, 3, 4), 3, []impl.Stroke{inRow(-6, -2, 3), inRow(-3, -2, 3), inRow(0, -2, 3), inRow(3, -2, 3)}},
		"all negative":    {frame4(-20, -9, -10, -4), 2, []impl.Stroke{inRow(-8, -20, -10), inRow(-6, -20, -10)}},
		"greatest":        {frame4(-500, -500, 500, 500), 500, []impl.Stroke{inRow(-500, -500, 500), inRow(0, -500, 500)}},
		"499":             {frame4(-500, -500, 500, 500), 499, []impl.Stroke{inRow(-499, -500, 500), inRow(0, -500, 500), inRow(499, -500, 500)}},
		"250":             {frame4(-500, -500, 500, 500), 250, []impl.Stroke{inRow(-500, -500, 500), inRow(-250, -500, 500), inRow(0, -500, 500), inRow(250, -500, 500)}},
		"along a row":     {[]impl.Mark{{0, 2}, {5, 2}, {9, 2}}, 1, nil},
		"one mark thrice": {make([]impl.Mark, 3), 1, nil},
		// The last row of a triangle that points up has no crossing; its first one has two that are one.
		"pointing up":   {[]impl.Mark{{4, 0}, {8, 4}, {0, 4}}, 1, []impl.Stroke{inRow(0, 4, 4), inRow(1, 3, 5), inRow(2, 2, 6), inRow(3, 1, 7)}},
		"pointing down": {[]impl.Mark{{0, 0}, {8, 0}, {4, 4}}, 1, []impl.Stroke{inRow(0, 0, 8), inRow(1, 1, 7), inRow(2, 2, 6), inRow(3, 3, 5)}},
		// Halves go up: 0.5 to 1, -0.5 to 0, 1.5 to 2, -1.5 to -1.
		"halves":          {[]impl.Mark{{0, 0}, {1, 2}, {5, 0}}, 1, []impl.Stroke{inRow(0, 0, 5), inRow(1, 1, 3)}},
		"negative halves": {[]impl.Mark{{0, 0}, {-1, 2}, {-5, 0}}, 1, []impl.Stroke{inRow(0, -5, 0), inRow(1, -3, 0)}},
		"halves, back":    {[]impl.Mark{{5, 0}, {1, 2}, {0, 0}}, 1, []impl.Stroke{inRow(0, 0, 5), inRow(1, 1, 3)}},
		"other halves":    {[]impl.Mark{{3, 0}, {0, 2}, {-3, 0}}, 1, []impl.Stroke{inRow(0, -3, 3), inRow(1, -1, 2)}},
		"thirds":          {[]impl.Mark{{0, 0}, {1, 3}, {-1, 3}}, 1, []impl.Stroke{inRow(0, 0, 0), inRow(1, 0, 0), inRow(2, -1, 1)}},
		// There are two strokes in a row, or two that touch.
		"U": {[]impl.Mark{{0, 0}, {2, 0}, {2, 3}, {6, 3}, {6, 0}, {8, 0}, {8, 5}, {0, 5}}, 2, []impl.Stroke{
			inRow(0, 0, 2), inRow(0, 6, 8), inRow(2, 0, 2), inRow(2, 6, 8), inRow(4, 0, 8)}},
		"hourglass":    {[]impl.Mark{{0, 0}, {6, 0}, {0, 6}, {6, 6}}, 2, []impl.Stroke{inRow(0, 0, 6), inRow(2, 2, 4), inRow(4, 2, 4)}},
		"twice around": {append(frame4(0, 0, 4, 4), frame4(0, 0, 4, 4)...), 3, []impl.Stroke{inRow(0, 0, 0), inRow(0, 4, 4), inRow(3, 0, 0), inRow(3, 4, 4)}},
		"16 marks":     {append(frame4(0, 0, 9, 2), slices.Repeat([]impl.Mark{{0, 2}}, 12)...), 2, []impl.Stroke{inRow(0, 0, 9)}},
	} {
		for dash := range int8(4) {
			want := slices.Clone(c.want)
			for i := range want {
				want[i].Dash = dash
			}
			same(t, "HatchLoop "+name, all(impl.HatchLoop(c.loop, c.step, dash)), all(want, codeOK))
		}
	}
}

func TestHatchLoopLimits(t *testing.T) {
	square := frame4(0, 0, 4, 4)
	none := []impl.Stroke{}
	for _, loop := range [][]impl.Mark{nil, {}, square[:1], square[:2], make([]impl.Mark, 17), make([]impl.Mark, 18)} {
		same(t, "HatchLoop "+row(loop), all(impl.HatchLoop(loop, 1, 0)), all(none, codeRange))
	}
	for _, step := range []int64{0, -1, 501, -500, 1000, math.MaxInt64, math.MinInt64, 1 << 32, 1<<32 + 1} {
		same(t, "HatchLoop "+row(step), all(impl.HatchLoop(square, step, 0)), all(none, codeRange))
	}
	for _, dash := range []int8{4, -1, 5, 127, -128} {
		same(t, "HatchLoop "+row(dash), all(impl.HatchLoop(square, 1, dash)), all(none, codeRange))
	}
	// 60 strokes, and one more; steps and dashes are looked at first.
	list, code := impl.HatchLoop(frame4(0, 0, 4, 60), 1, impl.DsChain)
	same(t, "60", all(int64(len(list)), list[59], code), all(int64(60), impl.Stroke{A: impl.Mark{0, 59}, B: impl.Mark{4, 59}, Dash: impl.DsChain}, codeOK))
	tall := frame4(0, -1, 4, 60)
	same(t, "61", all(impl.HatchLoop(tall, 1, 0)), all(none, codeLimit))
	same(t, "61, and no dash", all(impl.HatchLoop(tall, 1, 4)), all(none, codeRange))
	same(t, "61, and no step", all(impl.HatchLoop(tall, 0, 0)), all(none, codeRange))
	list, code = impl.HatchLoop(tall, 2, 0)
	same(t, "each second one", all(int64(len(list)), list[0], code), all(int64(30), inRow(0, 0, 4), codeOK))
	// Two strokes in each of 30 rows, and of 31.
	twice := func(rows int16) []impl.Mark {
		return append(frame4(0, 0, 4, rows), impl.Mark{0, 0}, impl.Mark{9, 0}, impl.Mark{9, rows}, impl.Mark{0, rows})
	}
	list, code = impl.HatchLoop(twice(30), 1, 0)
	same(t, "30 rows", all(int64(len(list)), list[0], list[1], code), all(int64(60), inRow(0, 0, 0), inRow(0, 4, 9), codeOK))
	same(t, "31 rows", all(impl.HatchLoop(twice(31), 1, 0)), all(none, codeLimit))
	same(t, "all rows", all(impl.HatchLoop(frame4(-500, -500, 500, 500), 1, 0)), all(none, codeLimit))
	same(t, "many rows", all(impl.HatchLoop(frame4(-500, -500, 500, 500), 16, 0)), all(none, codeLimit))
	list, code = impl.HatchLoop(frame4(-500, -500, 500, 500), 17, 0)
	same(t, "fewer rows", all(int64(len(list)), list[0], code), all(int64(59), inRow(-493, -500, 500), codeOK))
}
