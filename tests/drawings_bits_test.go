package tests

import (
	"testing"

	"loop.example/g01249/impl"
)

// four makes a list of four results.
func four[A, B, C any](a A, b B, c C, code int64) []any { return []any{a, b, c, code} }

func TestStrokesToTheLastBit(t *testing.T) {
	t.Parallel()
	m, found := newMaker(), codesFound{}
	clipped := map[bool]int{}
	for range rounds / 4 {
		s, x, k := m.stroke(), m.sheet(), int64(m.Intn(60)-5)
		low, high, dash := m.mark(), m.mark(), m.dash()
		if m.Intn(4) > 0 {
			for i := range low {
				low[i], high[i] = min(low[i], high[i]), max(low[i], high[i])
			}
		}
		args := row(s, low, high)
		same(t, "ValidStroke "+row(s), all(impl.ValidStroke(s)), all(wantValidStrokes(s)))
		found.compare(t, "MarksOf", row(s), all(impl.MarksOf(s)), two(wantMarks(s)))
		same(t, "IsDrawn "+row(dash, k), all(impl.IsDrawn(dash, k)), all(wantDrawn(dash, k)))
		found.compare(t, "ClipStroke", args, all(impl.ClipStroke(s, low, high)), three(wantClipped(s, low, high)))
		found.compare(t, "DrawStroke", row(x, s), all(impl.DrawStroke(x, s)), two(wantDrawStrokes(x, []impl.Stroke{s})))
		if t.Failed() {
			return
		}
		if _, some, code := impl.ClipStroke(s, low, high); code == codeOK {
			clipped[some]++
		}
	}
	if clipped[true] < 500 || clipped[false] < 500 {
		t.Errorf("%d strokes had marks in a frame, and %d none", clipped[true], clipped[false])
	}
	found.check(t, map[string][]int64{
		"MarksOf": {codeOK, codeInvalid}, "ClipStroke": {codeOK, codeInvalid, codeRange}, "DrawStroke": {codeOK, codeInvalid},
	})
}

func TestMarksToTheLastBit(t *testing.T) {
	t.Parallel()
	m := newMaker()
	inked := map[bool]int{}
	for range rounds / 8 {
		a, b, x := m.anyMark(), m.anyMark(), m.sheet()
		same(t, "DistanceOf "+row(a, b), all(impl.DistanceOf(a, b)), all(wantDistance(a, b)))
		g, count := gridOf(x), int64(0)
		for _, inks := range g {
			for _, ink := range inks {
				if ink {
					count++
				}
			}
		}
		same(t, "CountInk "+row(x), all(impl.CountInk(x)), all(count))
		for _, at := range []impl.Mark{a, m.validMark(), m.markWithin(-1, 64)} {
			want := min(at[0], at[1]) >= 0 && max(at[0], at[1]) < 64 && g[at[1]][at[0]]
			same(t, "HasInk "+row(x, at), all(impl.HasInk(x, at)), all(want))
			inked[want]++
		}
		if t.Failed() {
			return
		}
	}
	if inked[true] < 1000 || inked[false] < 1000 {
		t.Errorf("%d marks had ink, and %d none", inked[true], inked[false])
	}
}

func TestListsOfStrokesToTheLastBit(t *testing.T) {
	t.Parallel()
	m, found := newMaker(), codesFound{}
	for range rounds / 10 {
		list, x := m.strokes(), m.sheet()
		found.compare(t, "DrawStrokes", row(x, list), all(impl.DrawStrokes(x, list)), two(wantDrawStrokes(x, list)))
		text := strokesText(list)
		if wantValidStrokes(list...) && len(list) <= 60 {
			same(t, "StrokesText "+row(list), all(impl.StrokesText(list)), all(text))
			found.compare(t, "ReadStrokes", text, all(impl.ReadStrokes(text)), all(list, codeOK))
		} else {
			same(t, "StrokesText "+row(list), all(impl.StrokesText(list)), all(""))
			found.compare(t, "ReadStrokes", text, all(impl.ReadStrokes(text)), all([]impl.Stroke{}, codeSyntax))
		}
		same(t, "SheetText "+row(x), all(impl.SheetText(x)), all(sheetText(x)))
		same(t, "ReadSheet "+row(x), all(impl.ReadSheet(sheetText(x))), all(x, codeOK))
		if t.Failed() {
			return
		}
	}
	found.check(t, map[string][]int64{"DrawStrokes": {codeOK, codeInvalid, codeLimit}, "ReadStrokes": {codeOK, codeSyntax}})
}

func TestLoopsToTheLastBit(t *testing.T) {
	t.Parallel()
	m, found := newMaker(), codesFound{}
	for range rounds / 8 {
		loop, x, ink := m.loop(), m.sheet(), m.Intn(2) == 0
		found.compare(t, "FillLoop", row(x, loop, ink), all(impl.FillLoop(x, loop, ink)), two(wantFill(x, loop, ink)))
		for range 4 {
			step, dash := int64(1+m.Intn(20)), m.dash()
			if m.Intn(6) == 0 {
				step = []int64{0, -1, 1, 499, 500, 501, 1 << 62, -1 << 63}[m.Intn(8)]
			}
			found.compare(t, "HatchLoop", row(loop, step, dash), all(impl.HatchLoop(loop, step, dash)), two(wantHatch(loop, step, dash)))
		}
		if t.Failed() {
			return
		}
	}
	found.check(t, map[string][]int64{
		"FillLoop": {codeOK, codeInvalid, codeRange}, "HatchLoop": {codeOK, codeInvalid, codeRange, codeLimit},
	})
}

func TestOrdersOfStrokesToTheLastBit(t *testing.T) {
	t.Parallel()
	m, found := newMaker(), codesFound{}
	improved, often := 0, 0
	for i := range rounds / 10 {
		list, start := m.strokes(), m.mark()
		// Long lists take the second calculation long.
		if i%20 > 0 {
			list = list[:min(len(list), 12)]
		}
		order, turned := m.orderOf(len(list))
		most := int64(m.Intn(53) - 1)
		args := row(list, order, turned, start)
		found.compare(t, "WayOf", args, all(impl.WayOf(list, order, turned, start)), two(wantWayOf(list, order, turned, start)))
		found.compare(t, "OrderStrokes", args, all(impl.OrderStrokes(list, start)), three(wantOrderStrokes(list, start)))
		found.compare(t, "ImproveOrder", args+row(most), all(impl.ImproveOrder(list, order, turned, start, most)), four(wantImproved(list, order, turned, start, most)))
		if t.Failed() {
			return
		}
		if _, _, way, code := wantImproved(list, order, turned, start, most); code == codeOK && most > 1 {
			if way < wayThrough(list, order, turned, start) {
				improved++
			}
			if _, _, once, _ := wantImproved(list, order, turned, start, 1); way < once {
				often++
			}
		}
	}
	if improved < 100 || often < 100 {
		t.Errorf("only %d orders became shorter, and %d of them more than once", improved, often)
	}
	codes := []int64{codeOK, codeInvalid, codeLimit}
	found.check(t, map[string][]int64{"OrderStrokes": codes, "WayOf": append(codes, codeRange), "ImproveOrder": append(codes, codeRange)})
}

func TestMarksOfSpotsToTheLastBit(t *testing.T) {
	t.Parallel()
	m, found := newMaker(), codesFound{}
	halves, held := 0, 0
	for range rounds {
		s, scale := m.spotForScale()
		found.compare(t, "MarkOf", row(s, scale), all(impl.MarkOf(s, scale)), two(wantMarkOf(s, scale)))
		if t.Failed() {
			return
		}
		at, code := impl.MarkOf(s, scale)
		if twice := 2 * float64(s[0]) * float64(scale); code == codeOK && twice == float64(int64(twice)) && int64(twice)%2 != 0 {
			halves++
		}
		if at[0] == 500 || at[1] == -500 {
			held++
		}
	}
	if halves < 1000 || held < 1000 {
		t.Errorf("there were only %d halves, and %d marks that were held", halves, held)
	}
	found.check(t, map[string][]int64{"MarkOf": {codeOK, codeInvalid}})
}

func TestDrawnSolidsToTheLastBit(t *testing.T) {
	t.Parallel()
	m, found := newMaker(), codesFound{}
	inked := 0
	for range rounds / 10 {
		s, scale, face, x := m.drawnSolid(), m.scale(), m.anyFace(), m.sheet()
		c := m.sightOf(s)
		if m.Intn(12) == 0 {
			c = m.camera()
		}
		args := row(c, s, face, scale)
		found.compare(t, "LoopOf", args, all(impl.LoopOf(c, s, face, scale)), two(wantLoopOf(c, s, face, scale)))
		found.compare(t, "DrawSolid", row(x)+args, all(impl.DrawSolid(x, c, s, scale)), two(wantDrawSolid(x, c, s, scale)))
		if t.Failed() {
			return
		}
		if drawn, _ := impl.DrawSolid(impl.Sheet{}, c, s, scale); impl.CountInk(drawn) > 20 {
			inked++
		}
	}
	if inked < rounds/25 {
		t.Errorf("only %d solids were seen on the sheet", inked)
	}
	found.check(t, map[string][]int64{
		"LoopOf":    {codeOK, codeInvalid, codeRange, codeState, codeNotFound},
		"DrawSolid": {codeOK, codeInvalid, codeState, codeNotFound},
	})
}

func TestScenesToTheLastBit(t *testing.T) {
	t.Parallel()
	m, found := newMaker(), codesFound{}
	several := 0
	for range rounds / 10 {
		list, scale := m.drawnSolids(), m.scale()
		c := m.sightOf(list...)
		args := row(c, list, scale)
		got, code := impl.DrawScene(c, list, scale)
		found.compare(t, "DrawScene", args, all(got, code), two(wantDrawScene(c, list, scale)))
		if t.Failed() {
			return
		}
		if code == codeOK && len(list) > 1 && impl.CountInk(got) > 50 {
			several++
		}
	}
	if several < rounds/80 {
		t.Errorf("only %d scenes with several solids were seen on the sheet", several)
	}
	found.check(t, map[string][]int64{"DrawScene": {codeOK, codeInvalid, codeRange, codeState, codeNotFound}})
}
