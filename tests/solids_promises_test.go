package tests

import (
	"math"
	"slices"
	"testing"

	"loop.example/g01249/impl"
)

// solidCallsWithCodes are calls of all functions of chapter 3 that return a code.
func solidCallsWithCodes(m maker) []call {
	s, other, list := m.solid(), m.convexSolid(), m.solids()
	p, a, b, axis, turns := m.point(), m.placeNear(s), m.placeNear(s), m.point(), m.turns()
	face, edge, x := m.anyFace(), m.anyFace(), m.cuttingPlane(s)
	text := textOf(s)
	if m.Intn(4) == 0 {
		text = text[:m.Intn(len(text)+1)]
	}
	return []call{
		{"BoxSolid", func() []any { return all(impl.BoxSolid(a, p)) }},
		{"TentSolid", func() []any { return all(impl.TentSolid(a, p)) }},
		{"FacePlane", func() []any { return all(impl.FacePlane(s, face)) }},
		{"EdgesOf", func() []any { return all(impl.EdgesOf(s)) }},
		{"NeighbourOf", func() []any { return all(impl.NeighbourOf(s, face, edge)) }},
		{"VolumeOf", func() []any { return all(impl.VolumeOf(s)) }},
		{"FaceArea", func() []any { return all(impl.FaceArea(s, face)) }},
		{"MiddleOf", func() []any { return all(impl.MiddleOf(s)) }},
		{"IsConvex", func() []any { return all(impl.IsConvex(s)) }},
		{"IsInside", func() []any { return all(impl.IsInside(s, a)) }},
		{"FacingFaces", func() []any { return all(impl.FacingFaces(s, a)) }},
		{"OutlineOf", func() []any { return all(impl.OutlineOf(s, a)) }},
		{"FirstHit", func() []any { return all(impl.FirstHit(s, a, b)) }},
		{"MoveSolid", func() []any { return all(impl.MoveSolid(s, p)) }},
		{"TurnSolid", func() []any { return all(impl.TurnSolid(s, axis, turns)) }},
		{"CutSolid", func() []any { return all(impl.CutSolid(s, x)) }},
		{"DrawnFirst", func() []any { return all(impl.DrawnFirst(s, other, a)) }},
		{"OrderSolids", func() []any { return all(impl.OrderSolids(list, a)) }},
		{"ReadSolid", func() []any { return all(impl.ReadSolid(text)) }},
	}
}

// solidCallsWithoutCodes are calls of all the others.
func solidCallsWithoutCodes(m maker) []call {
	s, other := m.solid(), m.solid()
	return []call{
		{"ValidSolid", func() []any { return all(impl.ValidSolid(s)) }},
		{"SameSolid", func() []any { return all(impl.SameSolid(s, other), impl.SameSolid(s, s)) }},
		{"SolidText", func() []any { return all(impl.SolidText(s)) }},
	}
}

// withRoom copies a solid so that each list of it has room for more, in which there is something already.
func withRoom(s impl.Solid) impl.Solid {
	room := impl.Solid{Corners: append(slices.Clone(s.Corners), impl.Point{7, 7, 7}, impl.Point{8, 8, 8})[:len(s.Corners)]}
	for _, loop := range s.Faces {
		room.Faces = append(room.Faces, append(slices.Clone(loop), 77, 78)[:len(loop)])
	}
	room.Faces = append(room.Faces, []int16{79}, []int16{80})[:len(s.Faces)]
	return room
}

// whole writes a solid and what is in the room behind its lists.
func whole(s impl.Solid) string {
	s.Corners, s.Faces = s.Corners[:cap(s.Corners)], s.Faces[:cap(s.Faces)]
	text := row(s.Corners)
	for _, loop := range s.Faces {
		text += row(loop[:cap(loop)])
	}
	return text
}

// scribble overwrites all lists of a result, and the room behind them.
func scribble(result any) {
	switch x := result.(type) {
	case impl.Solid:
		for i := range x.Corners[:cap(x.Corners)] {
			x.Corners[:cap(x.Corners)][i] = impl.Point{-9, -9, -9}
		}
		for _, loop := range x.Faces {
			scribble(loop)
		}
		clear(x.Faces[:cap(x.Faces)])
	case []int16:
		for i := range x[:cap(x)] {
			x[:cap(x)][i] = -9
		}
	case [][2]int16:
		for i := range x[:cap(x)] {
			x[:cap(x)][i] = [2]int16{-9, -9}
		}
	case []int64:
		for i := range x[:cap(x)] {
			x[:cap(x)][i] = -9
		}
	case []impl.Point:
		for i := range x[:cap(x)] {
			x[:cap(x)][i] = impl.Point{-9, -9, -9}
		}
	case [][2]float32:
		for i := range x[:cap(x)] {
			x[:cap(x)][i] = [2]float32{-9, -9}
		}
	case []impl.Spot:
		for i := range x[:cap(x)] {
			x[:cap(x)][i] = impl.Spot{-9, -9}
		}
	case []impl.Mark:
		for i := range x[:cap(x)] {
			x[:cap(x)][i] = impl.Mark{-9, -9}
		}
	case []impl.Stroke:
		for i := range x[:cap(x)] {
			x[:cap(x)][i] = impl.Stroke{A: impl.Mark{-9, -9}, Dash: -9}
		}
	case []bool:
		for i := range x[:cap(x)] {
			x[:cap(x)][i] = !x[:cap(x)][i]
		}
	case [][2]int64:
		for i := range x[:cap(x)] {
			x[:cap(x)][i] = [2]int64{-9, -9}
		}
	case [][2]impl.Spot:
		for i := range x[:cap(x)] {
			x[:cap(x)][i] = [2]impl.Spot{{-9, -9}, {-9, -9}}
		}
	case impl.Claim:
		scribble(x.Free)
	case []impl.Claim:
		for _, c := range x {
			scribble(c)
		}
		clear(x[:cap(x)])
	case impl.Scene:
		for _, s := range x.Solids {
			scribble(s)
		}
		clear(x.Solids[:cap(x.Solids)])
	}
}

func TestP1SolidsAreLeftAsTheyAre(t *testing.T) {
	t.Parallel()
	m := newMaker()
	for range rounds / 20 {
		s, other := withRoom(m.solid()), withRoom(m.convexSolid())
		list := []impl.Solid{s, other, withRoom(m.squareSolid()), other}[:3]
		p, q, x, turns := m.placeNear(s), m.placeNear(s), m.cuttingPlane(s), m.within(2)
		before := whole(s) + whole(other) + whole(list[2]) + row(list[:4])
		for _, c := range []call{
			{"ValidSolid", func() []any { return all(impl.ValidSolid(s)) }},
			{"SameSolid", func() []any { return all(impl.SameSolid(s, other)) }},
			{"FacePlane", func() []any { return all(impl.FacePlane(s, 1)) }},
			{"EdgesOf", func() []any { return all(impl.EdgesOf(s)) }},
			{"NeighbourOf", func() []any { return all(impl.NeighbourOf(s, 1, 1)) }},
			{"VolumeOf", func() []any { return all(impl.VolumeOf(s)) }},
			{"FaceArea", func() []any { return all(impl.FaceArea(s, 1)) }},
			{"MiddleOf", func() []any { return all(impl.MiddleOf(s)) }},
			{"IsConvex", func() []any { return all(impl.IsConvex(s)) }},
			{"IsInside", func() []any { return all(impl.IsInside(s, p)) }},
			{"FacingFaces", func() []any { return all(impl.FacingFaces(s, p)) }},
			{"OutlineOf", func() []any { return all(impl.OutlineOf(s, p)) }},
			{"FirstHit", func() []any { return all(impl.FirstHit(s, p, q)) }},
			{"MoveSolid", func() []any { return all(impl.MoveSolid(s, q)) }},
			{"TurnSolid", func() []any { return all(impl.TurnSolid(s, q, turns)) }},
			{"CutSolid", func() []any { return all(impl.CutSolid(s, x)) }},
			// All of it is left: the result is the solid, but not its memory.
			{"CutSolid", func() []any { return all(impl.CutSolid(other, impl.Plane{N: impl.Point{1, 0, 0}, D: 1000})) }},
			{"DrawnFirst", func() []any { return all(impl.DrawnFirst(s, other, p)) }},
			{"OrderSolids", func() []any { return all(impl.OrderSolids(list, p)) }},
			{"SolidText", func() []any { return all(impl.SolidText(s)) }},
		} {
			first, again := c.run(), c.run()
			want := row(again...)
			for _, result := range first {
				scribble(result)
			}
			if after := whole(s) + whole(other) + whole(list[2]) + row(list[:4]); after != before {
				t.Fatalf("%s: the arguments were %s, and are %s", c.name, before, after)
			}
			if row(again...) != want {
				t.Fatalf("%s: two results share memory", c.name)
			}
		}
	}
}

func TestP1FacesOfAResultShareNoMemory(t *testing.T) {
	t.Parallel()
	m := newMaker()
	found := 0
	for range rounds / 20 {
		s := m.solid()
		cut, _ := impl.CutSolid(s, m.cuttingPlane(s))
		moved, _ := impl.MoveSolid(s, impl.Point{})
		turned, _ := impl.TurnSolid(s, impl.Point{0, 0, 1}, 0.25)
		read, _ := impl.ReadSolid(textOf(s))
		made, _ := impl.BoxSolid(impl.Point{}, impl.Point{1, 1, 1})
		tent, _ := impl.TentSolid(impl.Point{}, impl.Point{1, 1, 1})
		for _, got := range []impl.Solid{cut, moved, turned, read, made, tent} {
			want := row(got)
			for i, loop := range got.Faces {
				found++
				kept := slices.Clone(loop)
				scribble(loop)
				// A number that is added lies behind the end of the loop, and in no other one.
				_ = append(loop, -9)
				copy(got.Faces[i], kept)
				if row(got) != want {
					t.Fatalf("the face %d of %s shares memory", i, want)
				}
			}
		}
	}
	if found < 1000 {
		t.Errorf("there were only %d faces", found)
	}
}

func TestP1HugeSolids(t *testing.T) {
	const many = 900000
	loop := make([]int16, many)
	var thousands []impl.Solid
	for range 20000 {
		thousands = append(thousands, tetrahedron())
	}
	for name, s := range map[string]impl.Solid{
		"corners":       {Corners: make([]impl.Point, many/3), Faces: cube().Faces},
		"faces":         {Corners: cube().Corners, Faces: make([][]int16, many)},
		"a loop":        {Corners: cube().Corners, Faces: [][]int16{loop, loop[:3], loop[:3], loop[:3]}},
		"many loops":    {Corners: cube().Corners, Faces: slices.Repeat([][]int16{{0, 1, 2}}, many/3)},
		"loops of many": {Corners: cube().Corners, Faces: slices.Repeat([][]int16{loop[:50000]}, 16)},
	} {
		_, code := impl.VolumeOf(s)
		_, cutCode := impl.CutSolid(s, level(0.5))
		_, orderCode := impl.OrderSolids([]impl.Solid{cube(), s}, impl.Point{})
		same(t, name, all(impl.ValidSolid(s), impl.SameSolid(s, s), impl.SolidText(s), code, cutCode, orderCode),
			all(false, true, "", codeInvalid, codeInvalid, codeInvalid))
	}
	same(t, "many solids", all(impl.OrderSolids(thousands, impl.Point{})), all([]int64{}, codeRange))
	thousands[len(thousands)-1] = impl.Solid{}
	same(t, "many solids", all(impl.OrderSolids(thousands, impl.Point{})), all([]int64{}, codeInvalid))
	same(t, "many nothings", all(impl.OrderSolids(make([]impl.Solid, many), impl.Point{})), all([]int64{}, codeInvalid))
}

func TestP6EachEdgeHasTwoFaces(t *testing.T) {
	t.Parallel()
	m := newMaker()
	for range rounds / 20 {
		s := m.convexSolid()
		if m.Intn(4) == 0 {
			s = m.unevenSolid()
		}
		edges, code := impl.EdgesOf(s)
		if code != impl.OK {
			continue
		}
		faces := map[[2]int16][]int64{}
		for face, loop := range s.Faces {
			for i, from := range loop {
				to := loop[(i+1)%len(loop)]
				edge := [2]int16{min(from, to), max(from, to)}
				faces[edge] = append(faces[edge], int64(face))
				// The neighbour has the step back, and this face is the neighbour of that.
				next, code := impl.NeighbourOf(s, int64(face), int64(i))
				if code != impl.OK {
					t.Fatalf("NeighbourOf %s: got the code %d", row(s), code)
				}
				back := slices.IndexFunc(s.Faces[next], func(corner int16) bool { return corner == to })
				if back < 0 || s.Faces[next][(back+1)%len(s.Faces[next])] != from {
					t.Fatalf("NeighbourOf %s: the face %d has no step from %d to %d", row(s), next, to, from)
				}
				same(t, "NeighbourOf and back", all(impl.NeighbourOf(s, next, int64(back))), all(int64(face), codeOK))
			}
		}
		for _, edge := range edges {
			if edge[0] >= edge[1] || len(faces[edge]) != 2 || faces[edge][0] == faces[edge][1] {
				t.Fatalf("EdgesOf %s: %s has the faces %s", row(s), row(edge), row(faces[edge]))
			}
		}
		if len(edges) != len(faces) {
			t.Fatalf("EdgesOf %s: got %d of %d edges", row(s), len(edges), len(faces))
		}
		if convex, _ := impl.IsConvex(s); convex && len(s.Corners)+len(s.Faces) != len(edges)+2 {
			t.Fatalf("EdgesOf %s: got %d edges", row(s), len(edges))
		}
	}
}

// isLike reports whether two volumes of a solid are nearly the same.
func isLike(s impl.Solid, a, b float32) bool {
	size := float64(1)
	for _, p := range s.Corners {
		size = max(size, float64(impl.LengthOf(p)))
	}
	return math.Abs(float64(a-b)) <= 0.00001*size*size*size
}

func TestP6SolidsKeepTheirVolume(t *testing.T) {
	t.Parallel()
	m := newMaker()
	cuts, large := 0, 0
	for range rounds / 10 {
		s := m.convexSolid()
		volume, code := impl.VolumeOf(s)
		// A solid that is hardly there may have less than nothing, by rounding.
		if code != impl.OK || !isLike(s, max(volume, 0), volume) {
			t.Fatalf("VolumeOf %s: got %s", row(s), row(volume, code))
		}
		by, axis, turns := m.pointWithin(3), m.pointWithin(1), m.within(4)
		moved, code := impl.MoveSolid(s, by)
		got, _ := impl.VolumeOf(moved)
		if code != impl.OK || !isLike(moved, got, volume) && !isLike(s, got, volume) {
			t.Fatalf("MoveSolid %s: the volume was %v, and is %v", row(s, by), volume, got)
		}
		turned, code := impl.TurnSolid(s, axis, turns)
		got, _ = impl.VolumeOf(turned)
		if code != impl.OK && impl.LengthOf(axis) > 0.001 || code == impl.OK && !isLike(turned, got, volume) {
			t.Fatalf("TurnSolid %s: the volume was %v, and is %v", row(s, axis, turns), volume, got)
		}
		x := m.planeThrough(s)
		opposite := impl.Plane{N: impl.ScalePoint(x.N, -1), D: -x.D}
		one, code := impl.CutSolid(s, x)
		other, otherCode := impl.CutSolid(s, opposite)
		if code != impl.OK || otherCode != impl.OK {
			continue
		}
		cuts++
		if volume > 0.1 {
			large++
		}
		part, _ := impl.VolumeOf(one)
		rest, _ := impl.VolumeOf(other)
		if !isLike(s, max(part, 0), part) || !isLike(s, max(rest, 0), rest) || !isLike(s, part+rest, volume) {
			t.Fatalf("CutSolid %s: the volume was %v, and the parts have %v and %v", row(s, x), volume, part, rest)
		}
	}
	if large < rounds/50 {
		t.Errorf("only %d solids were cut, and %d of them were large", cuts, large)
	}
}

func TestP6WhatIsCutLiesOnItsSide(t *testing.T) {
	t.Parallel()
	m := newMaker()
	cuts := 0
	for range rounds / 10 {
		s := m.convexSolid()
		x := m.planeThrough(s)
		cut, code := impl.CutSolid(s, x)
		if code != impl.OK || impl.SameSolid(cut, s) {
			continue
		}
		cuts++
		convex, code := impl.IsConvex(cut)
		edges, _ := impl.EdgesOf(cut)
		if !convex || code != impl.OK || len(cut.Corners)+len(cut.Faces) != len(edges)+2 {
			t.Fatalf("CutSolid %s: got %s", row(s, x), row(cut))
		}
		// The new face is the last one; it is in the plane, and looks as this does.
		last := cut.Faces[len(cut.Faces)-1]
		plane, _ := impl.FacePlane(cut, int64(len(cut.Faces)-1))
		for i, p := range cut.Corners {
			side, _ := impl.SideOf(x, p)
			if isNew := slices.Contains(last, int16(i)); isNew && !near(side, 100) || !isNew && side >= -1.0/1024 {
				t.Fatalf("CutSolid %s: SideOf %s is %v", row(s, x), row(p), side)
			}
		}
		if impl.DotOf(plane.N, x.N) <= 0 {
			t.Fatalf("CutSolid %s: the new face looks to %s", row(s, x), row(plane.N))
		}
	}
	if cuts < rounds/50 {
		t.Errorf("only %d solids were cut", cuts)
	}
}

func TestP6InsidePointsAreBehindAllFaces(t *testing.T) {
	t.Parallel()
	m := newMaker()
	inside := 0
	for range rounds / 10 {
		s := m.convexSolid()
		middle, _ := impl.MiddleOf(s)
		p := wantBetween(middle, s.Corners[m.Intn(4)], m.Float32()*1.5)
		if m.Intn(2) == 0 {
			p = sums(p, m.pointWithin(1))
		}
		in, code := impl.IsInside(s, p)
		facing, _ := impl.FacingFaces(s, p)
		behind := true
		for face := range s.Faces {
			x, _ := impl.FacePlane(s, int64(face))
			side, _ := impl.SideOf(x, p)
			behind = behind && side <= 0
		}
		if code != impl.OK || in != behind || in != (len(facing) == 0) {
			t.Fatalf("IsInside %s: got %s", row(s, p), row(in, code))
		}
		if in, _ := impl.IsInside(s, middle); !in {
			t.Fatalf("IsInside %s: the middle %s is not", row(s), row(middle))
		}
		if in {
			inside++
			continue
		}
		// From outside the way to the middle comes in, at a face that looks there, ahead of the middle.
		hit, code := impl.FirstHit(s, p, middle)
		if code != impl.OK || hit.Share > 1 || !slices.Contains(facing, hit.Face) {
			t.Fatalf("FirstHit %s: got %s", row(s, p, middle), row(hit, code))
		}
		x, _ := impl.FacePlane(s, hit.Face)
		if side, _ := impl.SideOf(x, hit.At); !near(side, 100) {
			t.Fatalf("FirstHit %s: got %s, which is not in the face", row(s, p, middle), row(hit))
		}
	}
	if inside < rounds/50 {
		t.Errorf("only %d points are inside", inside)
	}
}

func TestP7OutlinesAreClosed(t *testing.T) {
	t.Parallel()
	m := newMaker()
	found := 0
	for range rounds / 10 {
		s := m.convexSolid()
		eye := sums(s.Corners[0], m.pointWithin(10))
		outline, code := impl.OutlineOf(s, eye)
		in, _ := impl.IsInside(s, eye)
		if code != impl.OK || in != (len(outline) == 0) {
			t.Fatalf("OutlineOf %s: got %s", row(s, eye), row(outline, code))
		}
		// At each corner an even number of edges end; from outside they go round just once.
		ends := map[int16]int{}
		for _, edge := range outline {
			ends[edge[0]]++
			ends[edge[1]]++
		}
		for corner, n := range ends {
			if n != 2 {
				t.Fatalf("OutlineOf %s: got %s, with %d ends at the corner %d", row(s, eye), row(outline), n, corner)
			}
		}
		if len(outline) > 0 {
			found++
		}
		edges, _ := impl.EdgesOf(s)
		for i, edge := range outline {
			if i > 0 && slices.Index(edges, edge) <= slices.Index(edges, outline[i-1]) {
				t.Fatalf("OutlineOf %s: got %s, in another order than EdgesOf", row(s, eye), row(outline))
			}
		}
	}
	if found < rounds/20 {
		t.Errorf("only %d eyes are outside", found)
	}
}

func TestP7OrdersAreRightForEachTwo(t *testing.T) {
	t.Parallel()
	m := newMaker()
	orders, hits := 0, 0
	for range rounds / 8 {
		var list []impl.Solid
		for range 2 + m.Intn(5) {
			list = append(list, moved(m.convexSolid(), impl.Point{m.within(12), m.within(1), m.within(1)}))
		}
		eye := impl.Point{m.within(25), m.within(5), m.within(5)}
		order, code := impl.OrderSolids(list, eye)
		if code != impl.OK {
			continue
		}
		orders++
		sorted := slices.Sorted(slices.Values(order))
		for i, index := range sorted {
			if int64(i) != index || len(sorted) != len(list) {
				t.Fatalf("OrderSolids %s: got %s", row(list, eye), row(order))
			}
		}
		for place, later := range order {
			for _, earlier := range order[:place] {
				one, other := min(earlier, later), max(earlier, later)
				first, code := impl.DrawnFirst(list[one], list[other], eye)
				if code != impl.OK || []int64{one, other}[first] != earlier {
					t.Fatalf("OrderSolids %s: got %s, but DrawnFirst of %d and %d is %d", row(list, eye), row(order), one, other, first)
				}
				// What is drawn later is not hidden by what is drawn earlier.
				to := wantBetween(list[later].Corners[m.Intn(4)], list[earlier].Corners[m.Intn(4)], m.Float32())
				behind, code := impl.FirstHit(list[earlier], eye, to)
				front, otherCode := impl.FirstHit(list[later], eye, to)
				if code == impl.OK && otherCode == impl.OK {
					hits++
					if impl.DistanceBetween(eye, front.At) > impl.DistanceBetween(eye, behind.At)+0.05 {
						t.Fatalf("OrderSolids %s: got %s, but %d hides %d from there to %s", row(list, eye), row(order), earlier, later, row(to))
					}
				}
			}
		}
	}
	if orders < rounds/50 || hits < 100 {
		t.Errorf("only %d orders were found, and %d ways that hit two solids", orders, hits)
	}
}
