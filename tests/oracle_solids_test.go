package tests

import (
	"fmt"
	"math"
	"strings"

	"loop.example/g01249/impl"
)

// This is the calculation of chapter 3 a second time, by the steps of oracle_test.go.
// It goes through lists again and again in place of keeping what it has found.

type stepInFace struct {
	face     int
	from, to int16
}

func wantSteps(s impl.Solid) []stepInFace {
	var steps []stepInFace
	for face, loop := range s.Faces {
		for i := range loop {
			k := i + 1
			if k == len(loop) {
				k = 0
			}
			steps = append(steps, stepInFace{face, loop[i], loop[k]})
		}
	}
	return steps
}

// facesWith returns the faces that have a step.
func facesWith(steps []stepInFace, from, to int16) []int {
	var faces []int
	for _, st := range steps {
		if st.from == from && st.to == to {
			faces = append(faces, st.face)
		}
	}
	return faces
}

func wantFacePlane(s impl.Solid, face int) (impl.Plane, int64) {
	loop := s.Faces[face]
	return wantPlaneThrough(s.Corners[loop[0]], s.Corners[loop[1]], s.Corners[loop[2]])
}

// sideOf is SideOf, of valid planes and points.
func sideOf(x impl.Plane, p impl.Point) float32 { return difference(wantDot(x.N, p), x.D) }

func wantValid(s impl.Solid) bool {
	if len(s.Corners) < 4 || len(s.Corners) > 24 || len(s.Faces) < 4 || len(s.Faces) > 16 {
		return false
	}
	return wantCornersInFaces(s) && wantStepsBack(s) && wantEvenFaces(s)
}

func wantCornersInFaces(s impl.Solid) bool {
	inFaces := map[int16]bool{}
	for _, loop := range s.Faces {
		inLoop := map[int16]bool{}
		for _, i := range loop {
			if i < 0 || int(i) >= len(s.Corners) {
				return false
			}
			inLoop[i], inFaces[i] = true, true
		}
		if len(inLoop) != len(loop) || len(loop) < 3 || len(loop) > 10 {
			return false
		}
	}
	for _, p := range s.Corners {
		if !plain(p[:]...) {
			return false
		}
	}
	return len(inFaces) == len(s.Corners)
}

func wantStepsBack(s impl.Solid) bool {
	steps := wantSteps(s)
	for _, st := range steps {
		if len(facesWith(steps, st.from, st.to)) != 1 || len(facesWith(steps, st.to, st.from)) != 1 {
			return false
		}
	}
	return true
}

func wantEvenFaces(s impl.Solid) bool {
	for face, loop := range s.Faces {
		x, code := wantFacePlane(s, face)
		if code != impl.OK {
			return false
		}
		for _, i := range loop {
			if side := sideOf(x, s.Corners[i]); side > 0.015625 || side < -0.015625 {
				return false
			}
		}
	}
	return true
}

func wantConvex(s impl.Solid) bool {
	for face := range s.Faces {
		x, _ := wantFacePlane(s, face)
		for _, p := range s.Corners {
			if sideOf(x, p) > 0.015625 {
				return false
			}
		}
	}
	return true
}

// codeOfAny is the code for a solid that may have any shape, and for points.
func codeOfAny(s impl.Solid, points ...impl.Point) int64 {
	for _, p := range points {
		if !plain(p[:]...) {
			return codeInvalid
		}
	}
	if !wantValid(s) {
		return codeInvalid
	}
	return codeOK
}

// codeOfConvex is the code for solids that have to be convex, and for a point.
func codeOfConvex(points []impl.Point, solids ...impl.Solid) int64 {
	for _, s := range solids {
		if code := codeOfAny(s, points...); code != codeOK {
			return code
		}
	}
	for _, s := range solids {
		if !wantConvex(s) {
			return codeState
		}
	}
	return codeOK
}

func ifValid(s impl.Solid) (impl.Solid, int64) {
	if !wantValid(s) {
		return impl.Solid{}, codeState
	}
	return s, codeOK
}

func wantRoom(low, high impl.Point) int64 {
	if !plain(low[:]...) || !plain(high[:]...) {
		return codeInvalid
	}
	if low[0] < high[0] && low[1] < high[1] && low[2] < high[2] {
		return codeOK
	}
	return codeRange
}

func wantTent(low, high impl.Point) impl.Solid {
	middle := wantBetween(low, high, 0.5)
	return impl.Solid{
		Corners: append(box(low, high).Corners[:4:4], impl.Point{middle[0], middle[1], high[2]}),
		Faces:   [][]int16{{0, 2, 3, 1}, {0, 1, 4}, {1, 3, 4}, {3, 2, 4}, {2, 0, 4}},
	}
}

func wantMade(s impl.Solid, code int64) (impl.Solid, int64) {
	if code != codeOK {
		return impl.Solid{}, code
	}
	return ifValid(s)
}

func wantPlaneOfFace(s impl.Solid, face int64) (impl.Plane, int64) {
	if code := codeOfAny(s); code != codeOK {
		return impl.Plane{}, code
	}
	if face < 0 || face >= int64(len(s.Faces)) {
		return impl.Plane{}, codeRange
	}
	return wantFacePlane(s, int(face))
}

func edgesOf(s impl.Solid) [][2]int16 {
	var edges [][2]int16
	for _, st := range wantSteps(s) {
		if st.to > st.from {
			edges = append(edges, [2]int16{st.from, st.to})
		}
	}
	return edges
}

func wantEdges(s impl.Solid) ([][2]int16, int64) {
	if code := codeOfAny(s); code != codeOK {
		return nil, code
	}
	return edgesOf(s), codeOK
}

func wantNeighbour(s impl.Solid, face, edge int64) (int64, int64) {
	if code := codeOfAny(s); code != codeOK {
		return 0, code
	}
	if face < 0 || face >= int64(len(s.Faces)) || edge < 0 || edge >= int64(len(s.Faces[face])) {
		return 0, codeRange
	}
	steps := wantSteps(s)
	for _, st := range steps {
		if st.face != int(face) {
			continue
		}
		if edge == 0 {
			return int64(facesWith(steps, st.to, st.from)[0]), codeOK
		}
		edge--
	}
	panic("there is no such step")
}

func trianglesOf(s impl.Solid, face int) [][3]impl.Point {
	var list [][3]impl.Point
	loop := s.Faces[face]
	for i := 1; i+1 < len(loop); i++ {
		list = append(list, [3]impl.Point{s.Corners[loop[0]], s.Corners[loop[i]], s.Corners[loop[i+1]]})
	}
	return list
}

func wantVolume(s impl.Solid) (float32, int64) {
	if code := codeOfAny(s); code != codeOK {
		return 0, code
	}
	total := float32(0)
	for face := range s.Faces {
		for _, t := range trianglesOf(s, face) {
			total = sum(total, wantDot(t[0], wantCross(t[1], t[2])))
		}
	}
	return quotient(total, 6), codeOK
}

func wantArea(s impl.Solid, face int64) (float32, int64) {
	if _, code := wantPlaneOfFace(s, face); code != codeOK {
		return 0, code
	}
	total := float32(0)
	for _, t := range trianglesOf(s, int(face)) {
		total = sum(total, wantLength(wantCross(wantLess(t[1], t[0]), wantLess(t[2], t[0]))))
	}
	return product(total, 0.5), codeOK
}

func wantMiddle(s impl.Solid) (impl.Point, int64) {
	if code := codeOfAny(s); code != codeOK {
		return impl.Point{}, code
	}
	return numberwise(quotient, sums(s.Corners[0], s.Corners[1:]...), everywhere(float32(len(s.Corners)))), codeOK
}

func wantIsConvex(s impl.Solid) (bool, int64) {
	code := codeOfAny(s)
	return code == codeOK && wantConvex(s), code
}

func looksTo(s impl.Solid, face int, eye impl.Point) bool {
	x, _ := wantFacePlane(s, face)
	return sideOf(x, eye) > 0
}

func wantFacing(s impl.Solid, eye impl.Point) ([]int64, int64) {
	var faces []int64
	code := codeOfConvex([]impl.Point{eye}, s)
	for face := range s.Faces {
		if code == codeOK && looksTo(s, face, eye) {
			faces = append(faces, int64(face))
		}
	}
	return faces, code
}

func wantInside(s impl.Solid, p impl.Point) (bool, int64) {
	faces, code := wantFacing(s, p)
	return code == codeOK && len(faces) == 0, code
}

func wantOutline(s impl.Solid, eye impl.Point) ([][2]int16, int64) {
	if code := codeOfConvex([]impl.Point{eye}, s); code != codeOK {
		return nil, code
	}
	var outline [][2]int16
	steps := wantSteps(s)
	for _, edge := range edgesOf(s) {
		one, other := facesWith(steps, edge[0], edge[1])[0], facesWith(steps, edge[1], edge[0])[0]
		if looksTo(s, one, eye) != looksTo(s, other, eye) {
			outline = append(outline, edge)
		}
	}
	return outline, codeOK
}

func wantHit(s impl.Solid, a, b impl.Point) (impl.Hit, int64) {
	if code := codeOfConvex([]impl.Point{a, b}, s); code != codeOK {
		return impl.Hit{}, code
	}
	return hitOf(s, a, b)
}

// hitOf is FirstHit of a convex solid and valid points.
func hitOf(s impl.Solid, a, b impl.Point) (impl.Hit, int64) {
	share, face := -infinite, -1
	for i := range s.Faces {
		x, _ := wantFacePlane(s, i)
		e := wantDot(x.N, wantLess(b, a))
		if e == 0 && sideOf(x, a) > 0 {
			return impl.Hit{}, codeNotFound
		}
		t := quotient(difference(x.D, wantDot(x.N, a)), e)
		if e < 0 && (face < 0 || t > share) {
			share, face = t, i
		}
	}
	if face < 0 || share < 0 {
		return impl.Hit{}, codeNotFound
	}
	for i := range s.Faces {
		x, _ := wantFacePlane(s, i)
		e := wantDot(x.N, wantLess(b, a))
		if e > 0 && quotient(difference(x.D, wantDot(x.N, a)), e) < share {
			return impl.Hit{}, codeNotFound
		}
	}
	at := wantBetween(a, b, share)
	if !finite(share, at[0], at[1], at[2]) {
		return impl.Hit{}, codeState
	}
	return impl.Hit{Face: int64(face), Share: share, At: at}, codeOK
}

func wantMovedSolid(s impl.Solid, by impl.Point) (impl.Solid, int64) {
	if code := codeOfAny(s, by); code != codeOK {
		return impl.Solid{}, code
	}
	return ifValid(moved(s, by))
}

func wantTurnedSolid(s impl.Solid, axis impl.Point, turns float32) (impl.Solid, int64) {
	if code := codeOfAny(s, axis); code != codeOK {
		return impl.Solid{}, code
	}
	if _, code := wantTurn(axis, turns, impl.Point{}); code != codeOK {
		return impl.Solid{}, code
	}
	return ifValid(turned(s, axis, turns))
}

// wantCut is CutSolid, for any arguments.
func wantCut(s impl.Solid, x impl.Plane) (impl.Solid, int64) {
	if invalid(x) {
		return impl.Solid{}, codeInvalid
	}
	if code := codeOfConvex(nil, s); code != codeOK {
		return impl.Solid{}, code
	}
	sides := make([]float32, len(s.Corners))
	inside := 0
	for i, p := range s.Corners {
		sides[i] = sideOf(x, p)
		if math.Abs(float64(sides[i])) <= 1.0/1024 {
			return impl.Solid{}, codeState
		}
		if sides[i] < 0 {
			inside++
		}
	}
	if inside == 0 {
		return impl.Solid{}, codeNotFound
	}
	if inside == len(s.Corners) {
		return s, codeOK
	}
	cut := wantPart(s, sides)
	if len(cut.Corners) > 24 || len(cut.Faces) > 16 {
		return impl.Solid{}, codeLimit
	}
	for _, loop := range cut.Faces {
		if len(loop) > 10 {
			return impl.Solid{}, codeLimit
		}
	}
	return ifValid(cut)
}

// wantPart returns what is left of a solid where sides are less than 0.
func wantPart(s impl.Solid, sides []float32) impl.Solid {
	var part impl.Solid
	// A corner is named by two indices: its own twice, or those of the ends of the edge on which it is, the lesser one first.
	var names [][2]int16
	for i, side := range sides {
		if side < 0 {
			names = append(names, [2]int16{int16(i), int16(i)})
			part.Corners = append(part.Corners, s.Corners[i])
		}
	}
	kept := len(names)
	for _, e := range edgesOf(s) {
		p, q := sides[e[0]], sides[e[1]]
		if p < 0 && q > 0 || p > 0 && q < 0 {
			names = append(names, e)
			share := quotient(p, difference(p, q))
			part.Corners = append(part.Corners, wantBetween(s.Corners[e[0]], s.Corners[e[1]], share))
		}
	}
	for face := range s.Faces {
		if loop := wantLoop(s, face, names); len(loop) > 0 {
			part.Faces = append(part.Faces, loop)
		}
	}
	last := []int16{}
	for at := int16(kept); len(last) < len(names)-kept; {
		last = append(last, at)
		for _, st := range wantSteps(part) {
			if st.to == at && int(st.from) >= kept {
				at = st.from
				break
			}
		}
	}
	part.Faces = append(part.Faces, last)
	return part
}

// wantLoop returns the corners with a name to which the loop of a face comes, on corners and on steps.
func wantLoop(s impl.Solid, face int, names [][2]int16) []int16 {
	var loop []int16
	for _, st := range wantSteps(s) {
		if st.face != face {
			continue
		}
		for _, name := range [][2]int16{{st.from, st.from}, {min(st.from, st.to), max(st.from, st.to)}} {
			for i, other := range names {
				if other == name {
					loop = append(loop, int16(i))
				}
			}
		}
	}
	return loop
}

// parts tells the first plane of a face of s behind which nothing of t is, and whether it looks to the eye.
func parts(s, t impl.Solid, eye impl.Point) (found, towards bool) {
	for face := range s.Faces {
		x, _ := wantFacePlane(s, face)
		least := infinite
		for _, p := range t.Corners {
			least = min(least, sideOf(x, p))
		}
		if least >= -0.015625 {
			return true, sideOf(x, eye) > 0
		}
	}
	return false, false
}

// wantFirst is DrawnFirst of convex solids.
func wantFirst(s, t impl.Solid, eye impl.Point) (int64, int64) {
	if found, towards := parts(s, t, eye); found {
		return map[bool]int64{true: 0, false: 1}[towards], codeOK
	}
	if found, towards := parts(t, s, eye); found {
		return map[bool]int64{true: 1, false: 0}[towards], codeOK
	}
	return 0, codeNotFound
}

func wantDrawnFirst(s, t impl.Solid, eye impl.Point) (int64, int64) {
	if code := codeOfConvex([]impl.Point{eye}, s, t); code != codeOK {
		return 0, code
	}
	return wantFirst(s, t, eye)
}

func wantOrderSolids(list []impl.Solid, eye impl.Point) ([]int64, int64) {
	code := codeOfConvex([]impl.Point{eye}, list...)
	if !plain(eye[:]...) {
		code = codeInvalid
	}
	if code != codeInvalid && len(list) > 6 {
		code = codeRange
	}
	if code != codeOK {
		return nil, code
	}
	return wantOrder(list, eye, make([]bool, len(list)))
}

// wantOrder orders those that have not been drawn.
func wantOrder(list []impl.Solid, eye impl.Point, drawn []bool) ([]int64, int64) {
	left := 0
	for i := range list {
		if drawn[i] {
			continue
		}
		left++
		first, code := comesFirst(list, eye, drawn, i)
		if code != codeOK {
			return nil, code
		}
		if first {
			drawn[i] = true
			others, code := wantOrder(list, eye, drawn)
			if code != codeOK {
				return nil, code
			}
			return append([]int64{int64(i)}, others...), codeOK
		}
	}
	if left > 0 {
		return nil, codeState
	}
	return nil, codeOK
}

func comesFirst(list []impl.Solid, eye impl.Point, drawn []bool, i int) (bool, int64) {
	for k := range list {
		if drawn[k] || k == i {
			continue
		}
		answer, code := int64(0), int64(0)
		if i < k {
			answer, code = wantFirst(list[i], list[k], eye)
		} else {
			answer, code = wantFirst(list[k], list[i], eye)
			answer = 1 - answer
		}
		if code != codeOK {
			return false, code
		}
		if answer != 0 {
			return false, codeOK
		}
	}
	return true, codeOK
}

// textOf writes a solid that need not be valid.
func textOf(s impl.Solid) string {
	text := ""
	for _, p := range s.Corners {
		text += "corner " + impl.NumberText(p[0]) + " " + impl.NumberText(p[1]) + " " + impl.NumberText(p[2]) + "\n"
	}
	for _, loop := range s.Faces {
		text += "face " + strings.Trim(fmt.Sprint(loop), "[]") + "\n"
	}
	return text
}
