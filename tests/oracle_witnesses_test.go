package tests

import (
	"fmt"
	"slices"
	"sort"
	"strings"

	"loop.example/g01249/impl"
)

// This is the calculation of chapter 7 a second time, by the steps of oracle_test.go.
// It collects all hits, all crossings and all flags before it looks at them.

// codeOfScene is the code for a scene, and for points.
func codeOfScene(x impl.Scene, points ...impl.Point) int64 {
	if _, valid := wantFrame(x.Camera, points...); !valid || len(x.Solids) > 6 {
		return codeInvalid
	}
	for _, s := range x.Solids {
		if !wantValid(s) || !wantConvex(s) {
			return codeInvalid
		}
	}
	return codeOK
}

// nearlyAll is the share from which on a hit hides nothing.
const nearlyAll = float32(1023) / 1024

// hitOfSolid is a hit of a solid of a list.
type hitOfSolid struct {
	solid int
	impl.Hit
}

// hitsOn returns the hits that hide the end of a way, the least shares first.
func hitsOn(list []impl.Solid, a, b impl.Point) []hitOfSolid {
	var hits []hitOfSolid
	for i, s := range list {
		if hit, code := hitOf(s, a, b); code == codeOK && hit.Share < nearlyAll {
			hits = append(hits, hitOfSolid{i, hit})
		}
	}
	sort.SliceStable(hits, func(i, k int) bool { return hits[i].Share < hits[k].Share })
	return hits
}

func wantBehind(x impl.Scene, p impl.Point) bool { return wantDepth(x.Camera, p) < x.Camera.Near }

// bothOutside reports whether two points are at least at a face, outside of it.
func bothOutside(s impl.Solid, face int, p, q impl.Point) bool {
	x, _ := wantFacePlane(s, face)
	return sideOf(x, p) >= 0 && sideOf(x, q) >= 0
}

// claimOf is ClaimFor of a valid scene and a valid point.
func claimOf(x impl.Scene, p impl.Point) impl.Claim {
	if wantBehind(x, p) {
		return impl.Claim{Kind: 3, At: p}
	}
	if hits := hitsOn(x.Solids, x.Camera.Eye, p); len(hits) > 0 {
		return impl.Claim{Kind: 2, At: p, Solid: int64(hits[0].solid), Face: hits[0].Face, Share: hits[0].Share}
	}
	c := impl.Claim{Kind: 1, At: p}
	for i, s := range x.Solids {
		c.Free = append(c.Free, -1)
		for face := len(s.Faces) - 1; face >= 0; face-- {
			if bothOutside(s, face, x.Camera.Eye, p) {
				c.Free[i] = int16(face)
			}
		}
	}
	return c
}

func wantClaimFor(x impl.Scene, p impl.Point) (impl.Claim, int64) {
	if code := codeOfScene(x, p); code != codeOK {
		return impl.Claim{}, code
	}
	return claimOf(x, p), codeOK
}

func wantClaimsFor(x impl.Scene, list []impl.Point) ([]impl.Claim, int64) {
	if code := codeOfScene(x, list...); code != codeOK {
		return nil, code
	}
	if len(list) > 60 {
		return nil, codeLimit
	}
	var claims []impl.Claim
	for _, p := range list {
		claims = append(claims, claimOf(x, p))
	}
	return claims, codeOK
}

// crossing is where a way crosses the plane of a face.
type crossing struct{ e, t, side float32 }

func crossingsOf(s impl.Solid, a, b impl.Point) []crossing {
	var list []crossing
	for face := range s.Faces {
		x, _ := wantFacePlane(s, face)
		e := wantDot(x.N, wantLess(b, a))
		list = append(list, crossing{e, quotient(difference(x.D, wantDot(x.N, a)), e), sideOf(x, a)})
	}
	return list
}

func acceptedHidden(x impl.Scene, c impl.Claim) bool {
	if c.Solid < 0 || c.Solid >= int64(len(x.Solids)) || c.Face < 0 || c.Face >= int64(len(x.Solids[c.Solid].Faces)) {
		return false
	}
	list := crossingsOf(x.Solids[c.Solid], x.Camera.Eye, c.At)
	told := list[c.Face]
	if told.e >= 0 || word(told.t) != word(c.Share) || told.t < 0 || told.t >= nearlyAll {
		return false
	}
	for _, one := range list {
		if one.e < 0 && one.t > c.Share || one.e > 0 && one.t < c.Share || one.e == 0 && one.side > 0 {
			return false
		}
	}
	return true
}

func acceptedSeen(x impl.Scene, c impl.Claim) bool {
	if len(c.Free) != len(x.Solids) {
		return false
	}
	for i, face := range c.Free {
		s := x.Solids[i]
		if face < -1 || int(face) >= len(s.Faces) {
			return false
		}
		if face == -1 && len(hitsOn([]impl.Solid{s}, x.Camera.Eye, c.At)) > 0 {
			return false
		}
		if face >= 0 && !bothOutside(s, int(face), x.Camera.Eye, c.At) {
			return false
		}
	}
	return true
}

// accepted is CheckClaim of a valid scene and a claim of a valid point, of one of the three kinds.
func accepted(x impl.Scene, c impl.Claim) bool {
	behind := wantBehind(x, c.At)
	switch c.Kind {
	case 3:
		return behind
	case 2:
		return !behind && acceptedHidden(x, c)
	}
	return !behind && acceptedSeen(x, c)
}

func wantCheckClaim(x impl.Scene, c impl.Claim) (bool, int64) {
	broken, code := wantBrokenClaims(x, []impl.Claim{c})
	return code == codeOK && len(broken) == 0, code
}

func wantCheckClaims(x impl.Scene, list []impl.Claim) (int64, int64) {
	broken, code := wantBrokenClaims(x, list)
	if code != codeOK {
		return 0, code
	}
	if len(broken) == 0 {
		return 0, codeNotFound
	}
	return broken[0], codeOK
}

func wantBrokenClaims(x impl.Scene, list []impl.Claim) ([]int64, int64) {
	for _, c := range list {
		if !plain(c.At[:]...) {
			return nil, codeInvalid
		}
	}
	if code := codeOfScene(x); code != codeOK {
		return nil, code
	}
	if len(list) > 60 {
		return nil, codeLimit
	}
	for _, c := range list {
		if c.Kind < 1 || c.Kind > 3 {
			return nil, codeRange
		}
	}
	var broken []int64
	for i, c := range list {
		if !accepted(x, c) {
			broken = append(broken, int64(i))
		}
	}
	return broken, codeOK
}

func wantSeeEachOther(x impl.Scene, p, q impl.Point) (bool, int64) {
	if code := codeOfScene(x, p, q); code != codeOK {
		return false, code
	}
	return len(hitsOn(x.Solids, p, q))+len(hitsOn(x.Solids, q, p)) == 0, codeOK
}

func wantSeenCorners(x impl.Scene) ([][2]int64, int64) {
	var pairs [][2]int64
	if code := codeOfScene(x); code != codeOK {
		return pairs, code
	}
	for i, s := range x.Solids {
		for k, p := range s.Corners {
			if claimOf(x, p).Kind == 1 {
				pairs = append(pairs, [2]int64{int64(i), int64(k)})
			}
		}
	}
	return pairs, codeOK
}

// partEnd is where so many parts of a line end.
func partEnd(a, b impl.Point, i float32, parts int64) impl.Point {
	return wantBetween(a, b, quotient(i, float32(parts)))
}

// flagsOf writes for each part of a line whether it is seen, with a 1 or a 0.
func flagsOf(x impl.Scene, a, b impl.Point, parts int64) string {
	flags := ""
	for i := range parts {
		flag := "0"
		if claimOf(x, partEnd(a, b, sum(float32(i), 0.5), parts)).Kind == 1 {
			flag = "1"
		}
		flags += flag
	}
	return flags
}

// runsIn returns the first and the last index of each run of a 1.
func runsIn(flags string) [][2]int64 {
	var runs [][2]int64
	for at := 0; at < len(flags); {
		n := len(flags[at:]) - len(strings.TrimLeft(flags[at:], "1"))
		if n > 0 {
			runs = append(runs, [2]int64{int64(at), int64(at + n - 1)})
		}
		at += n + 1
	}
	return runs
}

func codeOfParts(x impl.Scene, parts int64, points ...impl.Point) int64 {
	if code := codeOfScene(x, points...); code != codeOK {
		return code
	}
	if parts < 1 || parts > 16 {
		return codeRange
	}
	return codeOK
}

func wantSeenShare(x impl.Scene, a, b impl.Point, parts int64) (float32, int64) {
	if code := codeOfParts(x, parts, a, b); code != codeOK {
		return 0, code
	}
	return quotient(float32(strings.Count(flagsOf(x, a, b, parts), "1")), float32(parts)), codeOK
}

func wantSeenParts(x impl.Scene, a, b impl.Point, parts int64) ([][2]int64, int64) {
	if code := codeOfParts(x, parts, a, b); code != codeOK {
		return nil, code
	}
	return runsIn(flagsOf(x, a, b, parts)), codeOK
}

// sketchOf returns the lines of a picture, and how many runs have none.
func sketchOf(x impl.Scene, parts int64) ([][2]impl.Spot, int) {
	var lines [][2]impl.Spot
	left := 0
	for _, s := range x.Solids {
		for _, edge := range edgesOf(s) {
			a, b := s.Corners[edge[0]], s.Corners[edge[1]]
			for _, run := range runsIn(flagsOf(x, a, b, parts)) {
				from := wantProjectPoint(x.Camera, partEnd(a, b, float32(run[0]), parts))
				to := wantProjectPoint(x.Camera, partEnd(a, b, float32(run[1]+1), parts))
				if from[2] != codeOK || to[2] != codeOK {
					left++
					continue
				}
				lines = append(lines, [2]impl.Spot{from[0].(impl.Spot), to[0].(impl.Spot)})
			}
		}
	}
	return lines, left
}

func wantSketchOf(x impl.Scene, parts int64) ([][2]impl.Spot, int64) {
	if code := codeOfParts(x, parts); code != codeOK {
		return nil, code
	}
	lines, _ := sketchOf(x, parts)
	if len(lines) > 200 {
		return nil, codeLimit
	}
	return lines, codeOK
}

func wantCheckOrder(x impl.Scene, order []int64) (int64, int64, int64) {
	if code := codeOfScene(x); code != codeOK {
		return 0, 0, code
	}
	sorted := slices.Sorted(slices.Values(order))
	if len(sorted) != len(x.Solids) {
		return 0, 0, codeRange
	}
	for i, k := range sorted {
		if int64(i) != k {
			return 0, 0, codeRange
		}
	}
	for i, one := range order {
		for k, other := range order {
			if i < k && !comesAhead(x, one, other) {
				return int64(i), int64(k), codeOK
			}
		}
	}
	return 0, 0, codeNotFound
}

// comesAhead reports whether the first one of two solids is the one that is drawn first.
func comesAhead(x impl.Scene, one, other int64) bool {
	if one > other {
		answer, code := wantFirst(x.Solids[other], x.Solids[one], x.Camera.Eye)
		return code == codeOK && answer == 1
	}
	answer, code := wantFirst(x.Solids[one], x.Solids[other], x.Camera.Eye)
	return code == codeOK && answer == 0
}

func wantMoveInScene(x impl.Scene, solid int64, by impl.Point) (impl.Scene, int64) {
	if code := codeOfScene(x, by); code != codeOK {
		return impl.Scene{}, code
	}
	if solid < 0 || solid >= int64(len(x.Solids)) {
		return impl.Scene{}, codeRange
	}
	y := impl.Scene{Camera: x.Camera}
	for i, s := range x.Solids {
		if int64(i) == solid {
			s = moved(s, by)
		}
		y.Solids = append(y.Solids, s)
	}
	if codeOfScene(y) != codeOK {
		return impl.Scene{}, codeState
	}
	return y, codeOK
}

// sceneText writes a scene that need not be valid.
func sceneText(x impl.Scene) string {
	text := "camera"
	for _, p := range []impl.Point{x.Camera.Eye, x.Camera.At, x.Camera.Up} {
		text += fmt.Sprintf(" %s %s %s", impl.NumberText(p[0]), impl.NumberText(p[1]), impl.NumberText(p[2]))
	}
	text += " " + impl.NumberText(x.Camera.Far) + " " + impl.NumberText(x.Camera.Near) + "\n"
	for _, s := range x.Solids {
		text += fmt.Sprintf("solid %d\n", len(s.Corners)+len(s.Faces)) + textOf(s)
	}
	return text
}
