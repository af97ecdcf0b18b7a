package tests

import (
	"math"
	"slices"
	"strings"
	"sync"
	"testing"

	"loop.example/g01249/impl"
)

// drawingCallsWithCodes are calls of all functions of chapter 6 that return a code.
func drawingCallsWithCodes(m maker) []call {
	s, list, x, loop := m.stroke(), m.strokes(), m.sheet(), m.loop()
	list = list[:min(len(list), []int{4, 12, 100}[m.Intn(3)])]
	order, turned := m.orderOf(len(list))
	low, high, start, rounds := m.mark(), m.mark(), m.mark(), int64(m.Intn(54)-2)
	step, dash, ink := int64(m.Intn(40)-1), m.dash(), m.Intn(2) == 0
	solid, solids, face := m.drawnSolid(), m.drawnSolids(), m.anyFace()
	c, sight, scale := m.sightOf(solid), m.sightOf(solids...), m.scale()
	spot, by := m.spotForScale()
	text, lines := sheetText(x), strokesText(list)
	if m.Intn(4) == 0 {
		text, lines = text[:m.Intn(len(text)+1)], lines[:m.Intn(len(lines)+1)]
	}
	return []call{
		{"MarksOf", func() []any { return all(impl.MarksOf(s)) }},
		{"ClipStroke", func() []any { return all(impl.ClipStroke(s, low, high)) }},
		{"DrawStroke", func() []any { return all(impl.DrawStroke(x, s)) }},
		{"DrawStrokes", func() []any { return all(impl.DrawStrokes(x, list)) }},
		{"FillLoop", func() []any { return all(impl.FillLoop(x, loop, ink)) }},
		{"HatchLoop", func() []any { return all(impl.HatchLoop(loop, step, dash)) }},
		{"WayOf", func() []any { return all(impl.WayOf(list, order, turned, start)) }},
		{"OrderStrokes", func() []any { return all(impl.OrderStrokes(list, start)) }},
		{"ImproveOrder", func() []any { return all(impl.ImproveOrder(list, order, turned, start, rounds)) }},
		{"MarkOf", func() []any { return all(impl.MarkOf(spot, by)) }},
		{"LoopOf", func() []any { return all(impl.LoopOf(c, solid, face, scale)) }},
		{"DrawSolid", func() []any { return all(impl.DrawSolid(x, c, solid, scale)) }},
		{"DrawScene", func() []any { return all(impl.DrawScene(sight, solids, scale)) }},
		{"ReadSheet", func() []any { return all(impl.ReadSheet(text)) }},
		{"ReadStrokes", func() []any { return all(impl.ReadStrokes(lines)) }},
	}
}

// drawingCallsWithoutCodes are calls of all the others.
func drawingCallsWithoutCodes(m maker) []call {
	s, list, x, a, b := m.stroke(), m.strokes(), m.sheet(), m.anyMark(), m.anyMark()
	dash, k := m.dash(), int64(m.Uint64())
	return []call{
		{"ValidStroke", func() []any { return all(impl.ValidStroke(s)) }},
		{"IsDrawn", func() []any { return all(impl.IsDrawn(dash, k), impl.IsDrawn(dash, k%50)) }},
		{"HasInk", func() []any { return all(impl.HasInk(x, a), impl.HasInk(x, b)) }},
		{"CountInk", func() []any { return all(impl.CountInk(x)) }},
		{"DistanceOf", func() []any { return all(impl.DistanceOf(a, b)) }},
		{"SheetText", func() []any { return all(impl.SheetText(x)) }},
		{"StrokesText", func() []any { return all(impl.StrokesText(list)) }},
	}
}

func TestP1DrawingsLeaveTheirArguments(t *testing.T) {
	t.Parallel()
	m := newMaker()
	for range rounds / 40 {
		n := 2 + m.Intn(9)
		strokes, marks := m.validStrokes(n+2), make([]impl.Mark, n+2)
		order, turned := inOrder(n + 2)
		for i := range marks {
			marks[i], turned[i] = m.markWithin(-10, 70), m.Intn(2) == 0
		}
		m.Shuffle(n, func(i, k int) { order[i], order[k] = order[k], order[i] })
		s := withRoom(moved(m.squareSolid(), impl.Point{0, 20, 0}))
		solids := []impl.Solid{s, withRoom(m.convexSolid()), s}[:2]
		state := func() string {
			return row(strokes[:n+2], marks[:n+2], order[:n+2], turned[:n+2], solids[:3]) + whole(s) + whole(solids[1])
		}
		before := state()
		// There is room behind the lists, in which there is something already.
		strokes, marks, order, turned = strokes[:n:n+2], marks[:n:n+2], order[:n:n+2], turned[:n:n+2]
		c, x, start, scale := m.sightOf(s), m.sheet(), m.validMark(), 10+m.Float32()*50
		for _, c := range []call{
			{"MarksOf", func() []any { return all(impl.MarksOf(strokes[0])) }},
			{"DrawStrokes", func() []any { return all(impl.DrawStrokes(x, strokes)) }},
			{"FillLoop", func() []any { return all(impl.FillLoop(x, marks, true)) }},
			{"HatchLoop", func() []any { return all(impl.HatchLoop(marks, 5, impl.DsDotted)) }},
			{"WayOf", func() []any { return all(impl.WayOf(strokes, order, turned, start)) }},
			{"OrderStrokes", func() []any { return all(impl.OrderStrokes(strokes, start)) }},
			{"ImproveOrder", func() []any { return all(impl.ImproveOrder(strokes, order, turned, start, 50)) }},
			{"ImproveOrder without rounds", func() []any { return all(impl.ImproveOrder(strokes, order, turned, start, 0)) }},
			{"LoopOf", func() []any { return all(impl.LoopOf(c, s, 1, scale)) }},
			{"DrawSolid", func() []any { return all(impl.DrawSolid(x, c, s, scale)) }},
			{"DrawScene", func() []any { return all(impl.DrawScene(c, solids, scale)) }},
			{"StrokesText", func() []any { return all(impl.StrokesText(strokes)) }},
			{"ReadStrokes", func() []any { return all(impl.ReadStrokes(strokesText(strokes))) }},
		} {
			first, again := c.run(), c.run()
			want := row(again...)
			for _, result := range first {
				scribble(result)
			}
			if after := state(); after != before {
				t.Fatalf("%s: the arguments were %s, and are %s", c.name, before, after)
			}
			if row(again...) != want {
				t.Fatalf("%s: two results share memory", c.name)
			}
		}
	}
}

// Sheets are handed on by value: one that is drawn on stays as it is.
func TestP1SheetsAreLeftAsTheyAre(t *testing.T) {
	t.Parallel()
	m := newMaker()
	for range rounds / 40 {
		x := m.sheet()
		before := x
		impl.DrawStroke(x, m.validStroke())
		impl.FillLoop(x, m.loop(), m.Intn(2) == 0)
		s := m.convexSolid()
		impl.DrawSolid(x, m.sightOf(s), s, m.scale())
		impl.HasInk(x, m.validMark())
		if x != before {
			t.Fatalf("a sheet was %s, and is %s", row(before), row(x))
		}
	}
}

func TestP1DrawingsAtTheSameTime(t *testing.T) {
	m := newMaker()
	var calls []call
	for range 60 {
		calls = append(append(calls, drawingCallsWithCodes(m)...), drawingCallsWithoutCodes(m)...)
	}
	want := resultsOf(calls)
	var running sync.WaitGroup
	for range 8 {
		running.Go(func() {
			if !slices.Equal(resultsOf(calls), want) {
				t.Error("there were other results")
			}
		})
	}
	running.Wait()
}

// What has been drawn before does not matter, not even with equal strokes and solids.
func TestP1WhatHasBeenDrawnBeforeDoesNotMatter(t *testing.T) {
	t.Parallel()
	m := newMaker()
	for range rounds / 100 {
		list, s := m.validStrokes(10), m.convexSolid()
		c, scale := m.sightOf(s), 10+m.Float32()*50
		for range 3 {
			x := m.sheet()
			same(t, "DrawStrokes", all(impl.DrawStrokes(x, list)), two(wantDrawStrokes(x, list)))
			same(t, "DrawSolid", all(impl.DrawSolid(x, c, s, scale)), two(wantDrawSolid(x, c, s, scale)))
			same(t, "DrawScene", all(impl.DrawScene(c, []impl.Solid{s}, scale)), two(wantDrawScene(c, []impl.Solid{s}, scale)))
		}
	}
}

func TestP1HugeDrawings(t *testing.T) {
	const many = 190000
	list, loop := make([]impl.Stroke, many), make([]impl.Mark, 500000)
	order, turned := make([]int64, 1000000), make([]bool, 1000000)
	x, none := impl.Sheet{}, []impl.Stroke{}
	same(t, "DrawStrokes", all(impl.DrawStrokes(fullSheet(), list)), all(x, codeLimit))
	same(t, "FillLoop", all(impl.FillLoop(fullSheet(), loop, true)), all(x, codeRange))
	same(t, "HatchLoop", all(impl.HatchLoop(loop, 1, 0)), all(none, codeRange))
	same(t, "WayOf", all(impl.WayOf(list, order[:many], turned[:many], impl.Mark{})), all(int64(0), codeLimit))
	same(t, "WayOf of a long order", all(impl.WayOf(list[:3], order, turned, impl.Mark{})), all(int64(0), codeRange))
	same(t, "OrderStrokes", all(impl.OrderStrokes(list, impl.Mark{})), all([]int64{}, []bool{}, codeLimit))
	same(t, "ImproveOrder", all(impl.ImproveOrder(list, order, turned, impl.Mark{}, 50)), all([]int64{}, []bool{}, int64(0), codeLimit))
	same(t, "StrokesText", all(impl.StrokesText(list)), all(""))
	list[many-1].Dash, loop[len(loop)-1][1] = -1, 501
	same(t, "DrawStrokes, not valid", all(impl.DrawStrokes(fullSheet(), list)), all(x, codeInvalid))
	same(t, "FillLoop, not valid", all(impl.FillLoop(fullSheet(), loop, true)), all(x, codeInvalid))
	same(t, "HatchLoop, not valid", all(impl.HatchLoop(loop, 1, 0)), all(none, codeInvalid))
	same(t, "OrderStrokes, not valid", all(impl.OrderStrokes(list, impl.Mark{})), all([]int64{}, []bool{}, codeInvalid))
	huge := impl.Solid{Corners: make([]impl.Point, 300000), Faces: make([][]int16, 90000)}
	same(t, "LoopOf", all(impl.LoopOf(straight, huge, 0, 1)), all([]impl.Mark{}, codeInvalid))
	same(t, "DrawSolid", all(impl.DrawSolid(fullSheet(), straight, huge, 1)), all(x, codeInvalid))
	same(t, "DrawScene", all(impl.DrawScene(straight, slices.Repeat([]impl.Solid{tetrahedron()}, 20000), 1)), all(x, codeRange))
	same(t, "DrawScene of none", all(impl.DrawScene(straight, make([]impl.Solid, 1000000), 1)), all(x, codeInvalid))
	same(t, "ReadSheet", all(impl.ReadSheet(strings.Repeat(zeroRow, 58000))), all(x, codeSyntax))
	same(t, "ReadStrokes", all(impl.ReadStrokes(strings.Repeat("0 0 0 0 0\n", 100000))), all(none, codeSyntax))
}

func TestP13StrokesHaveTheirEnds(t *testing.T) {
	t.Parallel()
	m := newMaker()
	for range rounds {
		s := m.validStroke()
		marks, code := impl.MarksOf(s)
		n := int(impl.DistanceOf(s.A, s.B))
		if code != impl.OK || len(marks) != n+1 || marks[0] != s.A || marks[n] != s.B {
			t.Fatalf("MarksOf %s: got %s", row(s), row(marks, code))
		}
		// Each mark is beside the one before, and none is further than a half from the way of the stroke.
		for k := range n {
			if impl.DistanceOf(marks[k], marks[k+1]) != 1 {
				t.Fatalf("MarksOf %s: %s and %s are not beside each other", row(s), row(marks[k]), row(marks[k+1]))
			}
			for i := range 2 {
				way := float64(s.A[i]) + float64(k)*(float64(s.B[i])-float64(s.A[i]))/float64(n)
				if math.Abs(float64(marks[k][i])-way) > 0.5 {
					t.Fatalf("MarksOf %s: %s is not near the way", row(s), row(marks[k]))
				}
			}
		}
		// A full stroke that is drawn has ink at both ends, if they lie on the sheet.
		s.Dash = impl.DsFull
		x, _ := impl.DrawStroke(impl.Sheet{}, s)
		for _, end := range []impl.Mark{s.A, s.B} {
			if on := min(end[0], end[1]) >= 0 && max(end[0], end[1]) < 64; impl.HasInk(x, end) != on {
				t.Fatalf("DrawStroke %s: got %s", row(s), row(x))
			}
		}
	}
}

func TestP13WhatIsClippedLiesInTheFrame(t *testing.T) {
	t.Parallel()
	m := newMaker()
	found := 0
	for range rounds {
		s, low, high := m.validStroke(), m.validMark(), m.validMark()
		for i := range low {
			low[i], high[i] = min(low[i], high[i]), max(low[i], high[i])
		}
		part, some, code := impl.ClipStroke(s, low, high)
		if code != impl.OK || !some {
			continue
		}
		found++
		marks, _ := impl.MarksOf(s)
		first, last := slices.Index(marks, part.A), slices.Index(marks, part.B)
		if first < 0 || last < first || part.Dash != s.Dash {
			t.Fatalf("ClipStroke %s: got %s", row(s, low, high), row(part))
		}
		for _, end := range []impl.Mark{part.A, part.B} {
			if end[0] < low[0] || end[1] < low[1] || end[0] > high[0] || end[1] > high[1] {
				t.Fatalf("ClipStroke %s: got %s, which is not in the frame", row(s, low, high), row(part))
			}
		}
		// It is the whole again when nothing is cut off.
		if again, some, code := impl.ClipStroke(part, low, high); again != part || !some || code != impl.OK {
			t.Fatalf("ClipStroke %s: got %s", row(part, low, high), row(again, some, code))
		}
	}
	if found < 1000 {
		t.Errorf("only %d strokes had marks in the frame", found)
	}
}

// goodLoop makes a loop with so many marks, at least, near the sheet.
func (m maker) goodLoop(least int) []impl.Mark {
	loop := make([]impl.Mark, least+m.Intn(17-least))
	for i := range loop {
		loop[i] = m.markWithin(-15, 78)
	}
	return loop
}

func TestP13LoopsAreFilledAndEmptied(t *testing.T) {
	t.Parallel()
	m := newMaker()
	for range rounds / 20 {
		loop, x := m.goodLoop(1), m.sheet()
		mask, code := impl.FillLoop(impl.Sheet{}, loop, true)
		filled, filledCode := impl.FillLoop(x, loop, true)
		emptied, emptiedCode := impl.FillLoop(x, loop, false)
		if code != impl.OK || filledCode != impl.OK || emptiedCode != impl.OK {
			t.Fatalf("FillLoop %s: got the codes %d, %d and %d", row(loop), code, filledCode, emptiedCode)
		}
		for y := range x {
			if filled[y] != x[y]|mask[y] || emptied[y] != x[y]&^mask[y] {
				t.Fatalf("FillLoop %s: the row %d is %x, and becomes %x with ink, and %x without", row(loop), y, x[y], filled[y], emptied[y])
			}
		}
		if back, _ := impl.FillLoop(filled, loop, false); back != emptied {
			t.Fatalf("FillLoop %s: emptied it is %s, not %s", row(loop), row(back), row(emptied))
		}
		if again, _ := impl.FillLoop(emptied, loop, true); again != filled {
			t.Fatalf("FillLoop %s: filled it is %s, not %s", row(loop), row(again), row(filled))
		}
		// It does not matter where a loop begins, or which way it goes.
		k := m.Intn(len(loop))
		other := slices.Concat(loop[k:], loop[:k])
		slices.Reverse(other)
		if same, _ := impl.FillLoop(x, other, true); same != filled {
			t.Fatalf("FillLoop %s: got %s, but from another beginning %s", row(loop), row(filled), row(same))
		}
	}
}

func TestP13HatchingLiesInItsLoop(t *testing.T) {
	t.Parallel()
	m := newMaker()
	found := 0
	for range rounds / 10 {
		loop, step := m.goodLoop(3), int64(1+m.Intn(9))
		list, code := impl.HatchLoop(loop, step, int8(m.Intn(4)))
		if code != impl.OK {
			continue
		}
		mask, _ := impl.FillLoop(impl.Sheet{}, loop, true)
		for i, s := range list {
			found++
			if s.A[1] != s.B[1] || int64(s.A[1])%step != 0 || s.A[0] > s.B[0] || i > 0 && s.A[1] < list[i-1].A[1] {
				t.Fatalf("HatchLoop %s: got %s", row(loop, step), row(list))
			}
			// Only its ends may lie beside the loop, as they are rounded.
			for x := s.A[0] + 1; x < s.B[0]; x++ {
				at := impl.Mark{x, s.A[1]}
				if on := min(x, s.A[1]) >= 0 && max(x, s.A[1]) < 64; on && !impl.HasInk(mask, at) {
					t.Fatalf("HatchLoop %s: %s of %s does not lie in it", row(loop, step), row(at), row(s))
				}
			}
		}
	}
	if found < 1000 {
		t.Errorf("there were only %d strokes", found)
	}
}

func TestP14OrdersBecomeNoLonger(t *testing.T) {
	t.Parallel()
	m := newMaker()
	shorter := 0
	for range rounds / 40 {
		n := m.Intn(14)
		list, start := m.validStrokes(n), m.validMark()
		for _, begin := range []string{"nearest", "any"} {
			order, turned, code := impl.OrderStrokes(list, start)
			if begin == "any" {
				order, turned = inOrder(n)
				for i, k := range m.Perm(n) {
					order[i], turned[i] = int64(k), m.Intn(2) == 0
				}
			}
			before, wayCode := impl.WayOf(list, order, turned, start)
			if code != impl.OK || wayCode != impl.OK {
				t.Fatalf("%s order of %s: the codes %d and %d", begin, row(list), code, wayCode)
			}
			last := before
			for most := range int64(6) {
				better, turns, way, code := impl.ImproveOrder(list, order, turned, start, most*10)
				told, toldCode := impl.WayOf(list, better, turns, start)
				// It has all strokes: else it would have no way.
				if code != impl.OK || toldCode != impl.OK || way != told || way > last {
					t.Fatalf("ImproveOrder %s in %d rounds: got %s from the way %d", row(list, order, turned, start), most*10, row(better, turns, way, code, told, toldCode), last)
				}
				last = way
			}
			if last < before {
				shorter++
			}
			// Where no round is left that makes it shorter, none of the parts can be turned over to make it so.
			best, turns, way, _ := impl.ImproveOrder(list, order, turned, start, 50)
			if again, _, same, _ := impl.ImproveOrder(list, best, turns, start, 50); same < way {
				continue
			} else if !slices.Equal(again, best) {
				t.Fatalf("ImproveOrder %s: got %s, and then %s", row(list, order, turned, start), row(best), row(again))
			}
			for i := range best {
				for k := i; k < n; k++ {
					other, flags := theOtherWayRound(best, turns, i, k)
					if longer, _ := impl.WayOf(list, other, flags, start); longer < way {
						t.Fatalf("ImproveOrder %s: got %s, of which %d to %d may be turned over", row(list, order, turned, start), row(best, turns), i, k)
					}
				}
			}
		}
	}
	if shorter < 100 {
		t.Errorf("only %d orders became shorter", shorter)
	}
}

func TestP14NearestStrokesComeFirst(t *testing.T) {
	t.Parallel()
	m := newMaker()
	for range rounds / 10 {
		list, at := m.validStrokes(m.Intn(30)), m.validMark()
		order, turned, code := impl.OrderStrokes(list, at)
		if code != impl.OK || len(order) != len(list) || len(turned) != len(list) {
			t.Fatalf("OrderStrokes %s: got %s", row(list, at), row(order, turned, code))
		}
		for place, i := range order {
			s := list[i]
			if turned[place] {
				s.A, s.B = s.B, s.A
			}
			for _, k := range order[place:] {
				near := min(impl.DistanceOf(at, list[k].A), impl.DistanceOf(at, list[k].B))
				if near < impl.DistanceOf(at, s.A) || near == impl.DistanceOf(at, s.A) && k < i {
					t.Fatalf("OrderStrokes %s: got %s, but %d comes before %d", row(list, at), row(order, turned), k, i)
				}
			}
			if turned[place] && impl.DistanceOf(at, s.B) <= impl.DistanceOf(at, s.A) {
				t.Fatalf("OrderStrokes %s: got %s, but %d need not be turned", row(list, at), row(order, turned), i)
			}
			at = s.B
		}
	}
}

func TestP15WhatIsDrawnLastIsSeen(t *testing.T) {
	t.Parallel()
	m := newMaker()
	found, hidden := 0, 0
	for range rounds / 8 {
		list, scale := m.drawnSolids(), 10+m.Float32()*70
		c := m.sightOf(list...)
		x, code := impl.DrawScene(c, list, scale)
		order, orderCode := impl.OrderSolids(list, c.Eye)
		if code != impl.OK || orderCode != impl.OK || len(order) < 2 {
			continue
		}
		last := list[order[len(order)-1]]
		// Drawn once more it changes nothing.
		if again, code := impl.DrawSolid(x, c, last, scale); code != impl.OK || again != x {
			t.Fatalf("DrawScene %s: got %s, and with the last one again %s", row(c, list, scale), row(x), row(again, code))
		}
		// Where it makes the same of a sheet with ink and of one without, this is what is seen.
		ink, _ := impl.DrawSolid(fullSheet(), c, last, scale)
		alone, _ := impl.DrawSolid(impl.Sheet{}, c, last, scale)
		for y := range x {
			covered := ^(ink[y] ^ alone[y])
			if x[y]&covered != alone[y]&covered {
				t.Fatalf("DrawScene %s: the row %d is %x, but the last one makes %x of it", row(c, list, scale), y, x[y], alone[y])
			}
		}
		found++
		// One that is drawn before may lose ink to it.
		before, _ := impl.DrawSolid(impl.Sheet{}, c, list[order[0]], scale)
		for y := range x {
			if before[y]&^x[y] != 0 {
				hidden++
				break
			}
		}
	}
	if found < 300 || hidden < 20 {
		t.Errorf("there were only %d scenes, in %d of which the first one is hidden", found, hidden)
	}
}

func TestP15StrokesThatAreDrawnAreSeen(t *testing.T) {
	t.Parallel()
	m := newMaker()
	for range rounds / 20 {
		x, list := m.sheet(), m.validStrokes(m.Intn(20))
		drawn, code := impl.DrawStrokes(x, list)
		if code != impl.OK || impl.CountInk(drawn) < impl.CountInk(x) {
			t.Fatalf("DrawStrokes %s: got %s", row(x, list), row(drawn, code))
		}
		// One by one, and the other way round, they leave the same ink.
		single := x
		for i := range list {
			single, _ = impl.DrawStroke(single, list[len(list)-1-i])
		}
		again, _ := impl.DrawStrokes(drawn, list)
		if single != drawn || again != drawn {
			t.Fatalf("DrawStrokes %s: got %s, one by one %s, and again %s", row(x, list), row(drawn), row(single), row(again))
		}
		for _, s := range list {
			marks, _ := impl.MarksOf(s)
			for k, at := range marks {
				on := min(at[0], at[1]) >= 0 && max(at[0], at[1]) < 64
				if on && impl.IsDrawn(s.Dash, int64(k)) && !impl.HasInk(drawn, at) {
					t.Fatalf("DrawStrokes %s: the mark %s of %s has no ink", row(x, list), row(at), row(s))
				}
			}
		}
	}
}

// A loop that is hatched closely, with its sides, is filled.
func TestP15HatchedLoopsAreFilled(t *testing.T) {
	t.Parallel()
	m := newMaker()
	found := 0
	for range rounds / 20 {
		loop := make([]impl.Mark, 3+m.Intn(3))
		for i := range loop {
			loop[i] = m.markWithin(0, 57)
		}
		list, code := impl.HatchLoop(loop, 1, impl.DsFull)
		if code != impl.OK {
			continue
		}
		found++
		hatched, _ := impl.DrawStrokes(impl.Sheet{}, list)
		for i := range loop {
			hatched, _ = impl.DrawStroke(hatched, from(loop[i], loop[(i+1)%len(loop)]))
		}
		filled, _ := impl.FillLoop(impl.Sheet{}, loop, true)
		for y := range filled {
			if filled[y]&^hatched[y] != 0 {
				t.Fatalf("HatchLoop %s: the row %d is %x, and filled %x", row(loop), y, hatched[y], filled[y])
			}
		}
	}
	if found < 100 {
		t.Errorf("only %d loops were hatched", found)
	}
}
