package tests

import (
	"cmp"
	"fmt"
	"math"
	"slices"
	"strings"

	"loop.example/g01249/impl"
)

// This is the calculation of chapter 6 a second time. Where the program rounds integers, this rounds wide numbers:
// they are so small that a half is a half, and all else far from one.

func wantNearest(p, q int) int { return int(math.Floor(float64(p)/float64(q) + 0.5)) }

func wantValidMarks(list ...impl.Mark) bool {
	for _, m := range list {
		if max(m[0], m[1]) > 500 || min(m[0], m[1]) < -500 {
			return false
		}
	}
	return true
}

// The marks that are drawn of each dash, again and again.
var dashes = []string{"1", "111100", "10", "11111010"}

func wantValidStrokes(list ...impl.Stroke) bool {
	for _, s := range list {
		if !wantValidMarks(s.A, s.B) || s.Dash < 0 || int(s.Dash) >= len(dashes) {
			return false
		}
	}
	return true
}

func wantDrawn(dash int8, k int64) bool {
	if k < 0 || dash < 0 || int(dash) >= len(dashes) {
		return false
	}
	pattern := dashes[dash]
	return pattern[k%int64(len(pattern))] == '1'
}

func wantDistance(a, b impl.Mark) int64 {
	x, y := math.Abs(float64(a[0])-float64(b[0])), math.Abs(float64(a[1])-float64(b[1]))
	return int64(math.Max(x, y))
}

// marksOf returns the marks of a valid stroke: the places themselves are rounded, not the ways to them.
func marksOf(s impl.Stroke) []impl.Mark {
	n := int(wantDistance(s.A, s.B))
	if n == 0 {
		return []impl.Mark{s.A}
	}
	var marks []impl.Mark
	for k := range n + 1 {
		at := func(i int) int16 { return int16(wantNearest(int(s.A[i])*(n-k)+int(s.B[i])*k, n)) }
		marks = append(marks, impl.Mark{at(0), at(1)})
	}
	return marks
}

func wantMarks(s impl.Stroke) ([]impl.Mark, int64) {
	if !wantValidStrokes(s) {
		return nil, codeInvalid
	}
	return marksOf(s), codeOK
}

func wantClipped(s impl.Stroke, low, high impl.Mark) (impl.Stroke, bool, int64) {
	if !wantValidStrokes(s) || !wantValidMarks(low, high) {
		return impl.Stroke{}, false, codeInvalid
	}
	if low[0] > high[0] || low[1] > high[1] {
		return impl.Stroke{}, false, codeRange
	}
	var inside []impl.Mark
	for _, m := range marksOf(s) {
		if low[0] <= m[0] && m[0] <= high[0] && low[1] <= m[1] && m[1] <= high[1] {
			inside = append(inside, m)
		}
	}
	if len(inside) == 0 {
		return impl.Stroke{}, false, codeOK
	}
	return impl.Stroke{A: inside[0], B: inside[len(inside)-1], Dash: s.Dash}, true, codeOK
}

// grid is a sheet of which each mark is told, row by row.
type grid [64][64]bool

func gridOf(x impl.Sheet) *grid {
	g := &grid{}
	for y, bits := range x {
		for i := range 64 {
			g[y][i] = bits/uint64(math.Pow(2, float64(i)))%2 == 1
		}
	}
	return g
}

func (g *grid) sheet() impl.Sheet {
	var x impl.Sheet
	for y, row := range g {
		for i, ink := range row {
			if ink {
				x[y] += uint64(math.Pow(2, float64(i)))
			}
		}
	}
	return x
}

func (g *grid) stroke(s impl.Stroke, ink bool) {
	for k, m := range marksOf(s) {
		if wantDrawn(s.Dash, int64(k)) && min(m[0], m[1]) >= 0 && max(m[0], m[1]) < 64 {
			g[m[1]][m[0]] = ink
		}
	}
}

func (g *grid) sides(loop []impl.Mark, ink bool) {
	for i := range loop {
		g.stroke(impl.Stroke{A: loop[i], B: loop[(i+1)%len(loop)]}, ink)
	}
}

// fraction is a number whose lower part is greater than 0.
type fraction struct{ upper, lower int }

// crossingsAt returns where the sides of a loop cross a row.
func crossingsAt(loop []impl.Mark, y int) []fraction {
	var list []fraction
	for i := range loop {
		a, b := loop[i], loop[(i+1)%len(loop)]
		if a[1] > b[1] {
			a, b = b, a
		}
		if int(a[1]) <= y && int(b[1]) > y {
			high := int(b[1]) - int(a[1])
			list = append(list, fraction{int(a[0])*high + (int(b[0])-int(a[0]))*(y-int(a[1])), high})
		}
	}
	return list
}

func (g *grid) fill(loop []impl.Mark, ink bool) {
	for y := range g {
		crossings := crossingsAt(loop, y)
		for i := range g[y] {
			in := false
			for _, c := range crossings {
				in = in != (c.upper > i*c.lower)
			}
			if in {
				g[y][i] = ink
			}
		}
	}
	g.sides(loop, ink)
}

func wantDrawStrokes(x impl.Sheet, list []impl.Stroke) (impl.Sheet, int64) {
	if !wantValidStrokes(list...) {
		return impl.Sheet{}, codeInvalid
	}
	if len(list) > 60 {
		return impl.Sheet{}, codeLimit
	}
	g := gridOf(x)
	for _, s := range list {
		g.stroke(s, true)
	}
	return g.sheet(), codeOK
}

func wantFill(x impl.Sheet, loop []impl.Mark, ink bool) (impl.Sheet, int64) {
	if !wantValidMarks(loop...) {
		return impl.Sheet{}, codeInvalid
	}
	if len(loop) < 1 || len(loop) > 16 {
		return impl.Sheet{}, codeRange
	}
	g := gridOf(x)
	g.fill(loop, ink)
	return g.sheet(), codeOK
}

func wantHatch(loop []impl.Mark, step int64, dash int8) ([]impl.Stroke, int64) {
	if !wantValidMarks(loop...) {
		return nil, codeInvalid
	}
	if len(loop) < 3 || len(loop) > 16 || step < 1 || step > 500 || dash < 0 || int(dash) >= len(dashes) {
		return nil, codeRange
	}
	var list []impl.Stroke
	for y := -500; y <= 500; y++ {
		if y%int(step) != 0 {
			continue
		}
		var places []int
		for _, c := range crossingsAt(loop, y) {
			places = append(places, wantNearest(c.upper, c.lower))
		}
		slices.Sort(places)
		for i := 0; i+1 < len(places); i += 2 {
			list = append(list, impl.Stroke{A: impl.Mark{int16(places[i]), int16(y)}, B: impl.Mark{int16(places[i+1]), int16(y)}, Dash: dash})
		}
	}
	if len(list) > 60 {
		return nil, codeLimit
	}
	return list, codeOK
}

// wayThrough is WayOf of an order that has all strokes.
func wayThrough(list []impl.Stroke, order []int64, turned []bool, start impl.Mark) int64 {
	marks := []impl.Mark{start}
	for place, i := range order {
		ends := []impl.Mark{list[i].A, list[i].B}
		if turned[place] {
			slices.Reverse(ends)
		}
		marks = append(marks, ends...)
	}
	way := int64(0)
	for i := 0; i+1 < len(marks); i += 2 {
		way += wantDistance(marks[i], marks[i+1])
	}
	return way
}

func codeOfOrder(list []impl.Stroke, order []int64, turned []bool, start impl.Mark) int64 {
	if !wantValidStrokes(list...) || !wantValidMarks(start) {
		return codeInvalid
	}
	if len(list) > 60 {
		return codeLimit
	}
	sorted := slices.Sorted(slices.Values(order))
	for i, k := range sorted {
		if int64(i) != k {
			return codeRange
		}
	}
	if len(order) != len(list) || len(turned) != len(list) {
		return codeRange
	}
	return codeOK
}

func wantWayOf(list []impl.Stroke, order []int64, turned []bool, start impl.Mark) (int64, int64) {
	if code := codeOfOrder(list, order, turned, start); code != codeOK {
		return 0, code
	}
	return wayThrough(list, order, turned, start), codeOK
}

// beginning is a stroke that may be the next one.
type beginning struct {
	distance int64
	index    int
	turned   bool
}

func compareBeginnings(a, b beginning) int {
	number := map[bool]int{true: 1}
	return cmp.Or(cmp.Compare(a.distance, b.distance), cmp.Compare(a.index, b.index), cmp.Compare(number[a.turned], number[b.turned]))
}

func wantOrderStrokes(list []impl.Stroke, start impl.Mark) ([]int64, []bool, int64) {
	if !wantValidStrokes(list...) || !wantValidMarks(start) {
		return nil, nil, codeInvalid
	}
	if len(list) > 60 {
		return nil, nil, codeLimit
	}
	var order []int64
	var turned []bool
	for range list {
		var left []beginning
		for i, s := range list {
			if !slices.Contains(order, int64(i)) {
				left = append(left, beginning{wantDistance(start, s.A), i, false}, beginning{wantDistance(start, s.B), i, true})
			}
		}
		next := slices.MinFunc(left, compareBeginnings)
		order, turned = append(order, int64(next.index)), append(turned, next.turned)
		start = list[next.index].B
		if next.turned {
			start = list[next.index].A
		}
	}
	return order, turned, codeOK
}

// theOtherWayRound returns an order whose places i to k are drawn the other way round.
func theOtherWayRound(order []int64, turned []bool, i, k int) ([]int64, []bool) {
	order, turned = slices.Clone(order), slices.Clone(turned)
	for place := i; place <= k; place++ {
		turned[place] = !turned[place]
	}
	slices.Reverse(order[i : k+1])
	slices.Reverse(turned[i : k+1])
	return order, turned
}

// shorter returns the first order that is shorter, and whether there is one.
func shorter(list []impl.Stroke, order []int64, turned []bool, start impl.Mark) ([]int64, []bool, bool) {
	way := wayThrough(list, order, turned, start)
	for i := range order {
		for k := i; k < len(order); k++ {
			other, turns := theOtherWayRound(order, turned, i, k)
			if wayThrough(list, other, turns, start) < way {
				return other, turns, true
			}
		}
	}
	return order, turned, false
}

func wantImproved(list []impl.Stroke, order []int64, turned []bool, start impl.Mark, most int64) ([]int64, []bool, int64, int64) {
	code := codeOfOrder(list, order, turned, start)
	if code == codeOK && (most < 0 || most > 50) {
		code = codeRange
	}
	if code != codeOK {
		return nil, nil, 0, code
	}
	found := true
	for round := int64(0); round < most && found; round++ {
		order, turned, found = shorter(list, order, turned, start)
	}
	return order, turned, wayThrough(list, order, turned, start), codeOK
}

// wholeMark returns 32 plus a whole number, or the number of a mark that is nearest.
func wholeMark(a float64) int16 {
	switch {
	case a > 468:
		return 500
	case a < -532:
		return -500
	}
	return int16(32 + int(a))
}

func markOf(s impl.Spot, scale float32) impl.Mark {
	floor := func(i int) float64 { return math.Floor(float64(sum(product(s[i], scale), 0.5))) }
	return impl.Mark{wholeMark(floor(0)), wholeMark(-floor(1))}
}

func wantMarkOf(s impl.Spot, scale float32) (impl.Mark, int64) {
	if !plainSpots(s) || !plain(scale) {
		return impl.Mark{}, codeInvalid
	}
	return markOf(s, scale), codeOK
}

// loopSeen is LoopOf of a face that is there.
func loopSeen(c impl.Camera, s impl.Solid, face int64, scale float32) ([]impl.Mark, int64) {
	var loop []impl.Mark
	code := codeOK
	for _, corner := range s.Faces[face] {
		results := wantProjectPoint(c, s.Corners[corner])
		if results[2] != codeOK {
			return nil, results[2].(int64)
		}
		spot := results[0].(impl.Spot)
		if !plainSpots(spot) {
			code = codeState
		}
		loop = append(loop, markOf(spot, scale))
	}
	if code != codeOK {
		return nil, code
	}
	return loop, codeOK
}

func wantLoopOf(c impl.Camera, s impl.Solid, face int64, scale float32) ([]impl.Mark, int64) {
	if _, valid := wantFrame(c); !valid || !plain(scale) || !wantValid(s) {
		return nil, codeInvalid
	}
	if face < 0 || face >= int64(len(s.Faces)) {
		return nil, codeRange
	}
	return loopSeen(c, s, face, scale)
}

// draw draws a convex solid.
func (g *grid) draw(c impl.Camera, s impl.Solid, scale float32) int64 {
	facing, _ := wantFacing(s, c.Eye)
	var loops [][]impl.Mark
	for _, face := range facing {
		loop, code := loopSeen(c, s, face, scale)
		if code != codeOK {
			return code
		}
		loops = append(loops, loop)
	}
	for _, loop := range loops {
		g.fill(loop, false)
	}
	for _, loop := range loops {
		g.sides(loop, true)
	}
	return codeOK
}

func wantDrawSolid(x impl.Sheet, c impl.Camera, s impl.Solid, scale float32) (impl.Sheet, int64) {
	if _, valid := wantFrame(c); !valid || !plain(scale) || !wantValid(s) {
		return impl.Sheet{}, codeInvalid
	}
	if !wantConvex(s) {
		return impl.Sheet{}, codeState
	}
	g := gridOf(x)
	if code := g.draw(c, s, scale); code != codeOK {
		return impl.Sheet{}, code
	}
	return g.sheet(), codeOK
}

func wantDrawScene(c impl.Camera, list []impl.Solid, scale float32) (impl.Sheet, int64) {
	if _, valid := wantFrame(c); !valid || !plain(scale) {
		return impl.Sheet{}, codeInvalid
	}
	order, code := wantOrderSolids(list, c.Eye)
	g := &grid{}
	for _, i := range order {
		if code == codeOK {
			code = g.draw(c, list[i], scale)
		}
	}
	if code != codeOK {
		return impl.Sheet{}, code
	}
	return g.sheet(), codeOK
}

func sheetText(x impl.Sheet) string {
	text := ""
	for _, bits := range x {
		text += fmt.Sprintf("%016x\n", bits)
	}
	return text
}

// strokesText is the text of strokes that need not be valid.
func strokesText(list []impl.Stroke) string {
	var lines []string
	for _, s := range list {
		lines = append(lines, fmt.Sprintln(s.A[0], s.A[1], s.B[0], s.B[1], s.Dash))
	}
	return strings.Join(lines, "")
}
