package tests

import (
	"math"
	"slices"
	"testing"

	"loop.example/g01249/impl"
)

// from makes a stroke from one mark to another one.
func from(a, b impl.Mark) impl.Stroke { return impl.Stroke{A: a, B: b} }

// dashed makes a stroke along the row 0 from 0 to a place.
func dashed(dash int8, to int16) impl.Stroke { return impl.Stroke{B: impl.Mark{to, 0}, Dash: dash} }

// inked makes a sheet of rows of signs, in which # has ink; the row 0 comes first.
func inked(rows ...string) impl.Sheet {
	var x impl.Sheet
	for y, signs := range rows {
		for i, sign := range signs {
			if sign == '#' {
				x[y] |= 1 << i
			}
		}
	}
	return x
}

// fullSheet has ink everywhere.
func fullSheet() impl.Sheet {
	var x impl.Sheet
	for y := range x {
		x[y] = math.MaxUint64
	}
	return x
}

// badMarks are marks that are not valid.
var badMarks = []impl.Mark{
	{501, 0}, {0, 501}, {-501, 0}, {0, -501}, {501, 501}, {-501, -501}, {500, 501}, {-501, 500},
	{32767, 0}, {0, 32767}, {-32768, 0}, {0, -32768}, {-32768, -32768}, {32767, 32767},
}

// badStrokes are strokes that are not valid.
func badStrokes() []impl.Stroke {
	var list []impl.Stroke
	for _, m := range badMarks {
		list = append(list, from(m, impl.Mark{}), from(impl.Mark{}, m), from(m, m))
	}
	for _, dash := range []int8{4, -1, 5, 127, -128} {
		list = append(list, dashed(dash, 3), impl.Stroke{Dash: dash})
	}
	return list
}

func TestExampleOfDrawings(t *testing.T) {
	same(t, "MarksOf", all(impl.MarksOf(from(impl.Mark{0, 0}, impl.Mark{3, 1}))), all([]impl.Mark{{0, 0}, {1, 0}, {2, 1}, {3, 1}}, codeOK))
	loop := []impl.Mark{{0, 0}, {4, 0}, {4, 4}, {0, 4}}
	same(t, "HatchLoop", all(impl.HatchLoop(loop, 2, impl.DsFull)), all([]impl.Stroke{
		from(impl.Mark{0, 0}, impl.Mark{4, 0}), from(impl.Mark{0, 2}, impl.Mark{4, 2}),
	}, codeOK))
	list := []impl.Stroke{from(impl.Mark{10, 0}, impl.Mark{0, 0}), from(impl.Mark{11, 0}, impl.Mark{20, 0})}
	order, turned, code := impl.OrderStrokes(list, impl.Mark{0, 0})
	same(t, "OrderStrokes", all(order, turned, code), all([]int64{0, 1}, []bool{true, false}, codeOK))
	same(t, "WayOf", all(impl.WayOf(list, order, turned, impl.Mark{0, 0})), all(int64(1), codeOK))
	same(t, "MarkOf", all(impl.MarkOf(impl.Spot{1, 2}, 4)), all(impl.Mark{36, 24}, codeOK))
}

func TestNumbersOfDrawings(t *testing.T) {
	same(t, "limits", all(int64(impl.MaxStrokes), int64(impl.MaxMark), int64(impl.MaxLoopMarks), int64(impl.MaxRounds)), all(int64(60), int64(500), int64(16), int64(50)))
	same(t, "dashes", all(int64(impl.DsFull), int64(impl.DsDashed), int64(impl.DsDotted), int64(impl.DsChain)), all(int64(0), int64(1), int64(2), int64(3)))
}

func TestValidStroke(t *testing.T) {
	for _, s := range badStrokes() {
		same(t, "ValidStroke "+row(s), all(impl.ValidStroke(s)), all(false))
	}
	for _, m := range []impl.Mark{{}, {500, 0}, {0, 500}, {-500, 0}, {0, -500}, {500, 500}, {-500, -500}, {500, -500}} {
		for dash := range int8(4) {
			for _, s := range []impl.Stroke{{A: m, Dash: dash}, {B: m, Dash: dash}, {A: m, B: m, Dash: dash}} {
				same(t, "ValidStroke "+row(s), all(impl.ValidStroke(s)), all(true))
			}
		}
	}
}

func TestMarksOfInAllDirections(t *testing.T) {
	for _, c := range []struct {
		to   impl.Mark
		want []impl.Mark
	}{
		{impl.Mark{0, 0}, []impl.Mark{{0, 0}}},
		{impl.Mark{1, 0}, []impl.Mark{{0, 0}, {1, 0}}},
		{impl.Mark{2, 0}, []impl.Mark{{0, 0}, {1, 0}, {2, 0}}},
		{impl.Mark{2, 2}, []impl.Mark{{0, 0}, {1, 1}, {2, 2}}},
		{impl.Mark{0, 2}, []impl.Mark{{0, 0}, {0, 1}, {0, 2}}},
		{impl.Mark{-2, 2}, []impl.Mark{{0, 0}, {-1, 1}, {-2, 2}}},
		{impl.Mark{-2, 0}, []impl.Mark{{0, 0}, {-1, 0}, {-2, 0}}},
		{impl.Mark{-2, -2}, []impl.Mark{{0, 0}, {-1, -1}, {-2, -2}}},
		{impl.Mark{0, -2}, []impl.Mark{{0, 0}, {0, -1}, {0, -2}}},
		{impl.Mark{2, -2}, []impl.Mark{{0, 0}, {1, -1}, {2, -2}}},
		// Halves go up, to the greater integer: 0.5 to 1, -0.5 to 0.
		{impl.Mark{2, 1}, []impl.Mark{{0, 0}, {1, 1}, {2, 1}}},
		{impl.Mark{1, 2}, []impl.Mark{{0, 0}, {1, 1}, {1, 2}}},
		{impl.Mark{-1, 2}, []impl.Mark{{0, 0}, {0, 1}, {-1, 2}}},
		{impl.Mark{-2, 1}, []impl.Mark{{0, 0}, {-1, 1}, {-2, 1}}},
		{impl.Mark{-2, -1}, []impl.Mark{{0, 0}, {-1, 0}, {-2, -1}}},
		{impl.Mark{-1, -2}, []impl.Mark{{0, 0}, {0, -1}, {-1, -2}}},
		{impl.Mark{1, -2}, []impl.Mark{{0, 0}, {1, -1}, {1, -2}}},
		{impl.Mark{2, -1}, []impl.Mark{{0, 0}, {1, 0}, {2, -1}}},
		// 1.5 to 2, and -1.5 to -1.
		{impl.Mark{4, 2}, []impl.Mark{{0, 0}, {1, 1}, {2, 1}, {3, 2}, {4, 2}}},
		{impl.Mark{4, -2}, []impl.Mark{{0, 0}, {1, 0}, {2, -1}, {3, -1}, {4, -2}}},
		{impl.Mark{-2, 4}, []impl.Mark{{0, 0}, {0, 1}, {-1, 2}, {-1, 3}, {-2, 4}}},
		// No halves: thirds, and fifths.
		{impl.Mark{3, 1}, []impl.Mark{{0, 0}, {1, 0}, {2, 1}, {3, 1}}},
		{impl.Mark{3, -1}, []impl.Mark{{0, 0}, {1, 0}, {2, -1}, {3, -1}}},
		{impl.Mark{3, 2}, []impl.Mark{{0, 0}, {1, 1}, {2, 1}, {3, 2}}},
		{impl.Mark{-3, -2}, []impl.Mark{{0, 0}, {-1, -1}, {-2, -1}, {-3, -2}}},
		{impl.Mark{5, -2}, []impl.Mark{{0, 0}, {1, 0}, {2, -1}, {3, -1}, {4, -2}, {5, -2}}},
		{impl.Mark{-3, 5}, []impl.Mark{{0, 0}, {-1, 1}, {-1, 2}, {-2, 3}, {-2, 4}, {-3, 5}}},
	} {
		for _, a := range []impl.Mark{{0, 0}, {10, 20}, {-7, -8}, {3, -100}, {494, -495}} {
			var want []impl.Mark
			for _, m := range c.want {
				want = append(want, impl.Mark{a[0] + m[0], a[1] + m[1]})
			}
			s := from(a, want[len(want)-1])
			s.Dash = impl.DsDotted
			same(t, "MarksOf "+row(s), all(impl.MarksOf(s)), all(want, codeOK))
			// The way back has the same marks: the place of a half is the same one.
			slices.Reverse(want)
			s.A, s.B = s.B, s.A
			same(t, "MarksOf "+row(s), all(impl.MarksOf(s)), all(want, codeOK))
		}
	}
}

func TestMarksOfTheLongestStrokes(t *testing.T) {
	marks, code := impl.MarksOf(from(impl.Mark{-500, 500}, impl.Mark{500, -500}))
	same(t, "how many", all(int64(len(marks)), code), all(int64(1001), codeOK))
	for k, m := range marks {
		same(t, "mark", all(m), all(impl.Mark{int16(k - 500), int16(500 - k)}))
	}
	marks, code = impl.MarksOf(from(impl.Mark{500, 500}, impl.Mark{499, -500}))
	same(t, "how many", all(int64(len(marks)), code), all(int64(1001), codeOK))
	// In the middle there is a half.
	same(t, "the middle", all(marks[499], marks[500], marks[501]), all(impl.Mark{500, 1}, impl.Mark{500, 0}, impl.Mark{499, -1}))
}

func TestMarksOfDoesNotLookAtDashes(t *testing.T) {
	for dash := range int8(4) {
		same(t, "MarksOf", all(impl.MarksOf(dashed(dash, 4))), all([]impl.Mark{{0, 0}, {1, 0}, {2, 0}, {3, 0}, {4, 0}}, codeOK))
	}
}

// Each function that takes a stroke returns ErrInvalid for those that are not valid, ahead of all other errors.
func TestStrokesThatAreNotValid(t *testing.T) {
	var marks []impl.Mark
	low, high := impl.Mark{0, 0}, impl.Mark{9, 9}
	good := dashed(impl.DsFull, 3)
	for _, s := range badStrokes() {
		args := row(s)
		same(t, "MarksOf "+args, all(impl.MarksOf(s)), all(marks, codeInvalid))
		same(t, "ClipStroke "+args, all(impl.ClipStroke(s, low, high)), all(impl.Stroke{}, false, codeInvalid))
		same(t, "ClipStroke, low above high "+args, all(impl.ClipStroke(s, high, low)), all(impl.Stroke{}, false, codeInvalid))
		same(t, "DrawStroke "+args, all(impl.DrawStroke(fullSheet(), s)), all(impl.Sheet{}, codeInvalid))
		for _, list := range [][]impl.Stroke{{s}, {good, s}, {s, good}, append(make([]impl.Stroke, 59), s), append(make([]impl.Stroke, 60), s), append([]impl.Stroke{s}, make([]impl.Stroke, 60)...)} {
			order, turned := inOrder(len(list))
			same(t, "DrawStrokes "+args, all(impl.DrawStrokes(fullSheet(), list)), all(impl.Sheet{}, codeInvalid))
			same(t, "WayOf "+args, all(impl.WayOf(list, order, turned, low)), all(int64(0), codeInvalid))
			same(t, "WayOf without an order "+args, all(impl.WayOf(list, nil, nil, low)), all(int64(0), codeInvalid))
			same(t, "OrderStrokes "+args, all(impl.OrderStrokes(list, low)), all([]int64{}, []bool{}, codeInvalid))
			for _, rounds := range []int64{0, 50, -1, 51} {
				same(t, "ImproveOrder "+args, all(impl.ImproveOrder(list, order, turned, low, rounds)), all([]int64{}, []bool{}, int64(0), codeInvalid))
			}
			same(t, "StrokesText "+args, all(impl.StrokesText(list)), all(""))
		}
	}
}

func TestMarksThatAreNotValid(t *testing.T) {
	good, none := dashed(impl.DsFull, 3), []impl.Stroke{}
	for _, m := range badMarks {
		args := row(m)
		for _, other := range []impl.Mark{{}, {500, 500}, {-500, -500}} {
			same(t, "ClipStroke, low "+args, all(impl.ClipStroke(good, m, other)), all(impl.Stroke{}, false, codeInvalid))
			same(t, "ClipStroke, high "+args, all(impl.ClipStroke(good, other, m)), all(impl.Stroke{}, false, codeInvalid))
		}
		for _, list := range [][]impl.Stroke{nil, {good}, make([]impl.Stroke, 61)} {
			order, turned := inOrder(len(list))
			same(t, "WayOf "+args, all(impl.WayOf(list, order, turned, m)), all(int64(0), codeInvalid))
			same(t, "WayOf without an order "+args, all(impl.WayOf(list, []int64{7}, nil, m)), all(int64(0), codeInvalid))
			same(t, "OrderStrokes "+args, all(impl.OrderStrokes(list, m)), all([]int64{}, []bool{}, codeInvalid))
			for _, rounds := range []int64{0, 50, -1, 51} {
				same(t, "ImproveOrder "+args, all(impl.ImproveOrder(list, order, turned, m, rounds)), all([]int64{}, []bool{}, int64(0), codeInvalid))
			}
		}
		for _, loop := range [][]impl.Mark{{m}, {{}, {5, 5}, m}, {m, {}, {5, 5}}, append(make([]impl.Mark, 15), m), append(make([]impl.Mark, 16), m)} {
			for _, ink := range []bool{false, true} {
				same(t, "FillLoop "+row(loop), all(impl.FillLoop(fullSheet(), loop, ink)), all(impl.Sheet{}, codeInvalid))
			}
			for _, step := range []int64{1, 0, 501} {
				same(t, "HatchLoop "+row(loop), all(impl.HatchLoop(loop, step, 0)), all(none, codeInvalid))
				same(t, "HatchLoop with no dash "+row(loop), all(impl.HatchLoop(loop, step, 4)), all(none, codeInvalid))
			}
		}
	}
}

func TestIsDrawn(t *testing.T) {
	for dash, want := range map[int8]string{
		impl.DsFull:   "########################",
		impl.DsDashed: "####..####..####..####..",
		impl.DsDotted: "#.#.#.#.#.#.#.#.#.#.#.#.",
		impl.DsChain:  "#####.#.#####.#.#####.#.",
		4:             "........................",
		5:             "........................",
		-1:            "........................",
		127:           "........................",
		-128:          "........................",
	} {
		for k, sign := range want {
			same(t, "IsDrawn "+row(dash, int64(k)), all(impl.IsDrawn(dash, int64(k))), all(sign == '#'))
		}
		for _, k := range []int64{-1, -2, -3, -4, -5, -6, -8, -24, math.MinInt64, math.MinInt64 + 1} {
			same(t, "IsDrawn "+row(dash, k), all(impl.IsDrawn(dash, k)), all(false))
		}
	}
	// The greatest number is 1 modulo 6 and 2, and 7 modulo 8.
	for dash, want := range []bool{true, true, false, false} {
		same(t, "IsDrawn", all(impl.IsDrawn(int8(dash), math.MaxInt64)), all(want))
		same(t, "IsDrawn", all(impl.IsDrawn(int8(dash), math.MaxInt64-1)), all(true))
	}
}

func TestClipStroke(t *testing.T) {
	for _, c := range []struct {
		s, want   impl.Stroke
		low, high impl.Mark
	}{
		{from(impl.Mark{-5, 0}, impl.Mark{5, 0}), from(impl.Mark{0, 0}, impl.Mark{3, 0}), impl.Mark{0, 0}, impl.Mark{3, 3}},
		{from(impl.Mark{5, 0}, impl.Mark{-5, 0}), from(impl.Mark{3, 0}, impl.Mark{0, 0}), impl.Mark{0, 0}, impl.Mark{3, 3}},
		{from(impl.Mark{1, -5}, impl.Mark{1, 5}), from(impl.Mark{1, 0}, impl.Mark{1, 3}), impl.Mark{0, 0}, impl.Mark{3, 3}},
		// All of it, or just an end.
		{from(impl.Mark{1, 2}, impl.Mark{3, 0}), from(impl.Mark{1, 2}, impl.Mark{3, 0}), impl.Mark{0, 0}, impl.Mark{3, 3}},
		{from(impl.Mark{3, 3}, impl.Mark{9, 9}), from(impl.Mark{3, 3}, impl.Mark{3, 3}), impl.Mark{0, 0}, impl.Mark{3, 3}},
		{from(impl.Mark{-9, 4}, impl.Mark{0, 3}), from(impl.Mark{-4, 3}, impl.Mark{0, 3}), impl.Mark{-500, -500}, impl.Mark{3, 3}},
		{from(impl.Mark{2, 2}, impl.Mark{2, 2}), from(impl.Mark{2, 2}, impl.Mark{2, 2}), impl.Mark{0, 0}, impl.Mark{3, 3}},
		// It passes a corner, and touches the frame at one mark.
		{from(impl.Mark{-3, 3}, impl.Mark{3, -3}), from(impl.Mark{0, 0}, impl.Mark{0, 0}), impl.Mark{0, 0}, impl.Mark{3, 3}},
		// A frame of one mark, or of a part of a row.
		{from(impl.Mark{0, 0}, impl.Mark{9, 3}), from(impl.Mark{3, 1}, impl.Mark{3, 1}), impl.Mark{3, 1}, impl.Mark{3, 1}},
		{from(impl.Mark{0, 0}, impl.Mark{9, 3}), from(impl.Mark{2, 1}, impl.Mark{4, 1}), impl.Mark{1, 1}, impl.Mark{9, 1}},
		// With halves: 2, 1 is a mark of it, and 2, 0 is none.
		{from(impl.Mark{0, 0}, impl.Mark{4, 2}), from(impl.Mark{1, 1}, impl.Mark{2, 1}), impl.Mark{0, 1}, impl.Mark{2, 9}},
		{from(impl.Mark{0, 0}, impl.Mark{4, -2}), from(impl.Mark{0, 0}, impl.Mark{1, 0}), impl.Mark{-9, 0}, impl.Mark{9, 9}},
		{from(impl.Mark{-500, -500}, impl.Mark{500, 500}), from(impl.Mark{-500, -500}, impl.Mark{500, 500}), impl.Mark{-500, -500}, impl.Mark{500, 500}},
	} {
		for dash := range int8(4) {
			c.s.Dash, c.want.Dash = dash, dash
			same(t, "ClipStroke "+row(c.s, c.low, c.high), all(impl.ClipStroke(c.s, c.low, c.high)), all(c.want, true, codeOK))
		}
	}
}

func TestClipStrokeWithoutMarksInTheFrame(t *testing.T) {
	for _, c := range []struct {
		s         impl.Stroke
		low, high impl.Mark
	}{
		{from(impl.Mark{-5, 0}, impl.Mark{-1, 0}), impl.Mark{0, 0}, impl.Mark{3, 3}},
		{from(impl.Mark{4, 4}, impl.Mark{9, 9}), impl.Mark{0, 0}, impl.Mark{3, 3}},
		{from(impl.Mark{4, 4}, impl.Mark{4, 4}), impl.Mark{0, 0}, impl.Mark{3, 3}},
		// It passes a corner just outside.
		{from(impl.Mark{-4, 3}, impl.Mark{3, -4}), impl.Mark{0, 0}, impl.Mark{3, 3}},
		// The frame lies between two marks of it.
		{from(impl.Mark{0, 0}, impl.Mark{4, 2}), impl.Mark{2, 0}, impl.Mark{2, 0}},
		{from(impl.Mark{0, 0}, impl.Mark{4, 2}), impl.Mark{1, 0}, impl.Mark{4, 0}},
	} {
		c.s.Dash = impl.DsChain
		same(t, "ClipStroke "+row(c.s, c.low, c.high), all(impl.ClipStroke(c.s, c.low, c.high)), all(impl.Stroke{}, false, codeOK))
	}
	s := dashed(impl.DsFull, 9)
	for _, frame := range [][2]impl.Mark{{{1, 0}, {0, 0}}, {{0, 1}, {0, 0}}, {{1, 1}, {0, 0}}, {{500, -500}, {-500, 500}}, {{-500, 500}, {500, 499}}} {
		same(t, "ClipStroke "+row(frame[0], frame[1]), all(impl.ClipStroke(s, frame[0], frame[1])), all(impl.Stroke{}, false, codeRange))
	}
}

func TestInkAtMarks(t *testing.T) {
	var none impl.Sheet
	for _, at := range []impl.Mark{{0, 0}, {63, 0}, {0, 63}, {63, 63}, {31, 32}, {32, 31}, {1, 62}} {
		var x impl.Sheet
		x[at[1]] = uint64(1) << at[0]
		without := fullSheet()
		without[at[1]] ^= uint64(1) << at[0]
		same(t, "HasInk "+row(at), all(impl.HasInk(x, at), impl.HasInk(none, at), impl.HasInk(fullSheet(), at), impl.HasInk(without, at)), all(true, false, true, false))
		same(t, "CountInk "+row(at), all(impl.CountInk(x), impl.CountInk(without)), all(int64(1), int64(4095)))
		other := impl.Mark{at[1], at[0]}
		same(t, "HasInk "+row(other), all(impl.HasInk(x, other), impl.HasInk(without, other)), all(at == other, at != other))
		same(t, "DrawStroke "+row(at), all(impl.DrawStroke(none, from(at, at))), all(x, codeOK))
	}
	for _, at := range append([]impl.Mark{{64, 0}, {0, 64}, {-1, 0}, {0, -1}, {64, 64}, {-1, -1}, {63, 64}, {64, 63}, {65, 1}, {-64, 0}, {0, -64}, {128, 0}, {500, 500}, {-500, -500}}, badMarks...) {
		same(t, "HasInk "+row(at), all(impl.HasInk(none, at), impl.HasInk(fullSheet(), at)), all(false, false))
	}
	same(t, "CountInk", all(impl.CountInk(none), impl.CountInk(fullSheet()), impl.CountInk(inked("#", "", ".##"))), all(int64(0), int64(4096), int64(3)))
}

func TestDrawStroke(t *testing.T) {
	for name, c := range map[string]struct {
		s    impl.Stroke
		want impl.Sheet
	}{
		"full":       {dashed(impl.DsFull, 9), inked("##########")},
		"dashed":     {dashed(impl.DsDashed, 9), inked("####..####")},
		"dotted":     {dashed(impl.DsDotted, 9), inked("#.#.#.#.#.")},
		"chain":      {dashed(impl.DsChain, 9), inked("#####.#.##")},
		"slanted":    {from(impl.Mark{0, 0}, impl.Mark{3, 1}), inked("##", "..##")},
		"to the top": {from(impl.Mark{0, 2}, impl.Mark{4, 0}), inked("....#", "..##", "##")},
		// The first mark has the index 0, wherever the stroke begins.
		"dashed back": {impl.Stroke{A: impl.Mark{9, 0}, Dash: impl.DsDashed}, inked("####..####")},
		"chain back":  {impl.Stroke{A: impl.Mark{9, 0}, Dash: impl.DsChain}, inked("##.#.#####")},
		"dotted back": {impl.Stroke{A: impl.Mark{9, 0}, Dash: impl.DsDotted}, inked(".#.#.#.#.#")},
		"one mark":    {impl.Stroke{A: impl.Mark{2, 1}, B: impl.Mark{2, 1}, Dash: impl.DsChain}, inked("", "..#")},
		// A part of it lies on the sheet; the marks are counted from its beginning.
		"from the left":  {impl.Stroke{A: impl.Mark{-3, 0}, B: impl.Mark{5, 0}, Dash: impl.DsDashed}, inked("#..###")},
		"from the right": {impl.Stroke{A: impl.Mark{66, 1}, B: impl.Mark{0, 1}, Dash: impl.DsDotted}, impl.Sheet{1: 0x5555555555555555}},
		"from above":     {from(impl.Mark{2, -3}, impl.Mark{0, 1}), inked(".#", "#")},
		"outside":        {from(impl.Mark{-1, -1}, impl.Mark{-1, 64}), impl.Sheet{}},
		"below":          {from(impl.Mark{-500, 64}, impl.Mark{500, 64}), impl.Sheet{}},
		"right":          {from(impl.Mark{64, -500}, impl.Mark{64, 500}), impl.Sheet{}},
		"last row":       {from(impl.Mark{-500, 63}, impl.Mark{500, 63}), impl.Sheet{63: math.MaxUint64}},
		"last bit":       {from(impl.Mark{63, 500}, impl.Mark{63, 62}), impl.Sheet{62: 1 << 63, 63: 1 << 63}},
	} {
		same(t, "DrawStroke "+name, all(impl.DrawStroke(impl.Sheet{}, c.s)), all(c.want, codeOK))
		// What has ink already keeps it.
		before := inked("..##", "...#", "", "#")
		want := before
		for y := range want {
			want[y] |= c.want[y]
		}
		same(t, "DrawStroke more "+name, all(impl.DrawStroke(before, c.s)), all(want, codeOK))
		same(t, "DrawStroke full "+name, all(impl.DrawStroke(fullSheet(), c.s)), all(fullSheet(), codeOK))
	}
}

func TestDrawStrokes(t *testing.T) {
	x := inked("#", ".#")
	for _, list := range [][]impl.Stroke{nil, {}} {
		same(t, "none", all(impl.DrawStrokes(x, list)), all(x, codeOK))
	}
	list := []impl.Stroke{dashed(impl.DsDotted, 6), from(impl.Mark{1, 0}, impl.Mark{1, 3}), dashed(impl.DsDotted, 6)}
	same(t, "three", all(impl.DrawStrokes(x, list)), all(inked("###.#.#", ".#", ".#", ".#"), codeOK))
	// Strokes that fill each other's gaps, or have the same ends, but not the same dashes.
	list = []impl.Stroke{dashed(impl.DsDotted, 7), dashed(impl.DsChain, 7), {A: impl.Mark{7, 0}, Dash: impl.DsDotted}}
	same(t, "dashes", all(impl.DrawStrokes(impl.Sheet{}, list)), all(inked("########"), codeOK))
	var rows []impl.Stroke
	for y := range int16(61) {
		rows = append(rows, from(impl.Mark{0, y}, impl.Mark{y, y}))
	}
	full, code := impl.DrawStrokes(impl.Sheet{}, rows[:60])
	same(t, "60", all(impl.CountInk(full), impl.HasInk(full, impl.Mark{59, 59}), code), all(int64(60*61/2), true, codeOK))
	same(t, "61", all(impl.DrawStrokes(x, rows)), all(impl.Sheet{}, codeLimit))
	same(t, "61 that are the same", all(impl.DrawStrokes(x, make([]impl.Stroke, 61))), all(impl.Sheet{}, codeLimit))
}
