package tests

import (
	"math"
	"slices"
	"sync"

	"loop.example/g01249/impl"
)

// These are solids, made without the program.

// ring makes the corners of a regular loop, to the left if it is seen from above.
func ring(n int, radius, z, turns float64) []impl.Point {
	var corners []impl.Point
	for i := range n {
		sine, cosine := math.Sincos(2 * math.Pi * (float64(i)/float64(n) + turns))
		corners = append(corners, impl.Point{float32(radius * cosine), float32(radius * sine), float32(z)})
	}
	return corners
}

// upwards and downwards are loops of n corners that follow each other from first on.
func upwards(n, first int) []int16 {
	var loop []int16
	for i := range n {
		loop = append(loop, int16(first+i))
	}
	return loop
}

func downwards(n, first int) []int16 {
	loop := upwards(n, first)
	slices.Reverse(loop)
	return loop
}

// prismOver makes a solid between a loop, to the left, and the same loop above it.
func prismOver(base []impl.Point, high float32) impl.Solid {
	n := len(base)
	s := impl.Solid{Corners: slices.Clone(base), Faces: [][]int16{downwards(n, 0), upwards(n, n)}}
	for i, p := range base {
		s.Corners = append(s.Corners, impl.Point{p[0], p[1], p[2] + high})
		k := (i + 1) % n
		s.Faces = append(s.Faces, []int16{int16(i), int16(k), int16(n + k), int16(n + i)})
	}
	return s
}

func prism(n int) impl.Solid { return prismOver(ring(n, 1, -1, 0), 2) }

func pyramid(n int) impl.Solid {
	s := impl.Solid{Corners: append(ring(n, 1, 0, 0), impl.Point{0, 0, 1}), Faces: [][]int16{downwards(n, 0)}}
	for i := range n {
		s.Faces = append(s.Faces, []int16{int16(i), int16((i + 1) % n), int16(n)})
	}
	return s
}

// bipyramid has its tips at the places n and n + 1, above and below.
func bipyramid(n int) impl.Solid {
	s := impl.Solid{Corners: append(ring(n, 1, 0, 0), impl.Point{0, 0, 1}, impl.Point{0, 0, -1})}
	for i := range n {
		k := (i + 1) % n
		s.Faces = append(s.Faces, []int16{int16(i), int16(k), int16(n)}, []int16{int16(k), int16(i), int16(n + 1)})
	}
	return s
}

// antiprism has triangles in place of the sides of a prism.
func antiprism(n int) impl.Solid {
	s := impl.Solid{
		Corners: append(ring(n, 1, -1, 0), ring(n, 1, 1, 0.5/float64(n))...),
		Faces:   [][]int16{downwards(n, 0), upwards(n, n)},
	}
	for i := range n {
		k := (i + 1) % n
		s.Faces = append(s.Faces, []int16{int16(i), int16(k), int16(n + i)}, []int16{int16(k), int16(n + k), int16(n + i)})
	}
	return s
}

func tetrahedron() impl.Solid {
	return impl.Solid{
		Corners: []impl.Point{{0, 0, 0}, {1, 0, 0}, {0, 1, 0}, {0, 0, 1}},
		Faces:   [][]int16{{0, 2, 1}, {0, 1, 3}, {1, 2, 3}, {2, 0, 3}},
	}
}

func box(low, high impl.Point) impl.Solid {
	s := impl.Solid{Faces: [][]int16{{0, 4, 6, 2}, {1, 3, 7, 5}, {0, 1, 5, 4}, {2, 6, 7, 3}, {0, 2, 3, 1}, {4, 5, 7, 6}}}
	for _, z := range []float32{low[2], high[2]} {
		for _, y := range []float32{low[1], high[1]} {
			for _, x := range []float32{low[0], high[0]} {
				s.Corners = append(s.Corners, impl.Point{x, y, z})
			}
		}
	}
	return s
}

// cube is the box from 0, 0, 0 to 1, 1, 1.
func cube() impl.Solid { return box(impl.Point{}, impl.Point{1, 1, 1}) }

// angle has a loop with a corner that points inside, and is not convex.
func angle() impl.Solid {
	return prismOver([]impl.Point{{0, 0, 0}, {2, 0, 0}, {2, 1, 0}, {1, 1, 0}, {1, 2, 0}, {0, 2, 0}}, 1)
}

// notched is like a U, and not convex.
func notched() impl.Solid {
	return prismOver([]impl.Point{{0, 0, 0}, {3, 0, 0}, {3, 2, 0}, {2, 2, 0}, {2, 1, 0}, {1, 1, 0}, {1, 2, 0}, {0, 2, 0}}, 1)
}

// twins are two solids that are one; corners and faces of the second one come behind.
func twins(s, t impl.Solid) impl.Solid {
	s = scaled(s, impl.Point{1, 1, 1})
	first := int16(len(s.Corners))
	s.Corners = append(s.Corners, t.Corners...)
	for _, loop := range t.Faces {
		loop = slices.Clone(loop)
		for i := range loop {
			loop[i] += first
		}
		s.Faces = append(s.Faces, loop)
	}
	return s
}

// octagons is a cube of which all corners have been cut off: it has 24 corners.
var octagons = sync.OnceValue(func() impl.Solid { return withoutTips(8) })

// tipOf is the plane that cuts off a corner of the box from -1, -1, -1 to 1, 1, 1.
func tipOf(i int) impl.Plane {
	x, _ := wantPlane(impl.Point{}, numberwise(difference, cube().Corners[i], everywhere(0.5)))
	x.D = 1.5
	return x
}

// withoutTips is that box without the corners ahead of one.
func withoutTips(first int) impl.Solid {
	s := box(impl.Point{-1, -1, -1}, impl.Point{1, 1, 1})
	for i := range first {
		s, _ = wantCut(s, tipOf(i))
	}
	return s
}

// changed returns a copy of a solid with other corners.
func changed(s impl.Solid, change func(p impl.Point) impl.Point) impl.Solid {
	var t impl.Solid
	for _, p := range s.Corners {
		t.Corners = append(t.Corners, change(p))
	}
	for _, loop := range s.Faces {
		t.Faces = append(t.Faces, slices.Clone(loop))
	}
	return t
}

func scaled(s impl.Solid, by impl.Point) impl.Solid {
	return changed(s, func(p impl.Point) impl.Point { return numberwise(product, p, by) })
}

func moved(s impl.Solid, by impl.Point) impl.Solid {
	return changed(s, func(p impl.Point) impl.Point { return numberwise(sum, p, by) })
}

func turned(s impl.Solid, axis impl.Point, turns float32) impl.Solid {
	return changed(s, func(p impl.Point) impl.Point {
		q, _ := wantTurnOfAny(axis, turns, p)
		return q
	})
}

func tiny(s impl.Solid) impl.Solid { return scaled(s, everywhere(0.006)) }

// size makes a number that is greater than 0.
func (m maker) size() float32 { return 0.2 + 2*m.Float32() }

// shape makes a convex solid of a size like 1 around 0, 0, 0.
func (m maker) shape() impl.Solid {
	switch m.Intn(8) {
	case 0:
		return prism(3 + m.Intn(8))
	case 1:
		return pyramid(3 + m.Intn(8))
	case 2:
		return bipyramid(3 + m.Intn(6))
	case 3:
		return antiprism(3 + m.Intn(5))
	case 4:
		return tetrahedron()
	case 5:
		return octagons()
	}
	return box(impl.Point{-1, -1, -1}, impl.Point{1, 1, 1})
}

// convexSolid makes a convex solid of an ordinary size that lies anywhere near, and is turned and cut.
func (m maker) convexSolid() impl.Solid {
	for {
		s := scaled(m.shape(), impl.Point{m.size(), m.size(), m.size()})
		s = moved(turned(s, impl.Point{1, m.within(2), m.within(2)}, m.within(1)), m.pointWithin(3))
		for range m.Intn(3) {
			if cut, code := wantCut(s, m.planeThrough(s)); code == impl.OK {
				s = cut
			}
		}
		if wantValid(s) && wantConvex(s) {
			return s
		}
	}
}

// planeThrough makes a plane that goes through a solid, mostly.
func (m maker) planeThrough(s impl.Solid) impl.Plane {
	p := s.Corners[m.Intn(len(s.Corners))]
	q := s.Corners[m.Intn(len(s.Corners))]
	x, _ := wantPlane(wantBetween(p, q, m.Float32()*1.2-0.1), m.pointWithin(1))
	return x
}

// squareSolid makes a box or a tent whose corners are whole numbers, so that much is equal.
func (m maker) squareSolid() impl.Solid {
	whole := func() float32 { return float32(m.Intn(5) - 2) }
	low := impl.Point{whole(), whole(), whole()}
	high := sums(low, impl.Point{float32(1 + m.Intn(3)), float32(1 + m.Intn(3)), float32(1 + m.Intn(3))})
	s := box(low, high)
	if m.Intn(3) == 0 {
		s = wantTent(low, high)
	}
	if m.Intn(4) == 0 {
		s = scaled(s, impl.Point{minusZero, -1, -1})
	}
	if m.Intn(4) == 0 {
		s = m.begunElsewhere(s)
	}
	return s
}

// begunElsewhere makes the same solid with loops that begin elsewhere, and faces in another order.
func (m maker) begunElsewhere(s impl.Solid) impl.Solid {
	s = scaled(s, impl.Point{1, 1, 1})
	for i, loop := range s.Faces {
		k := m.Intn(len(loop))
		s.Faces[i] = append(slices.Clone(loop[k:]), loop[:k]...)
	}
	m.Shuffle(len(s.Faces), func(i, k int) { s.Faces[i], s.Faces[k] = s.Faces[k], s.Faces[i] })
	return s
}

// unevenSolid makes a solid that is valid, mostly, and not convex, mostly.
func (m maker) unevenSolid() impl.Solid {
	s := []impl.Solid{angle(), notched(), twins(tetrahedron(), moved(tetrahedron(), impl.Point{0.5, 2, 0}))}[m.Intn(3)]
	if m.Intn(2) == 0 {
		s = scaled(s, everywhere(m.size()))
	}
	if m.Intn(2) == 0 {
		s = m.begunElsewhere(s)
	}
	return s
}

// tinySolid makes a solid that is so small that it counts as convex, whatever it looks like.
func (m maker) tinySolid() impl.Solid {
	s := tiny(m.unevenSolid())
	if m.Intn(2) == 0 {
		s = turned(s, m.pointWithin(1), m.within(1))
	}
	return s
}

// bentSolid makes a solid whose corners are a little elsewhere, so that faces are not quite even.
func (m maker) bentSolid() impl.Solid {
	by := []float32{0.001, 0.01, 0.02, 0.1}[m.Intn(4)]
	return changed(m.convexSolid(), func(p impl.Point) impl.Point { return numberwise(sum, p, m.pointWithin(by)) })
}

// largeSolid makes a solid whose corners are told less exactly.
func (m maker) largeSolid() impl.Solid {
	s := scaled(m.convexSolid(), everywhere([]float32{100, 10000, 100000, 1000000}[m.Intn(4)]))
	if m.Intn(2) == 0 {
		s = moved(s, m.pointWithin(impl.MaxSize))
	}
	return s
}

// anyNumbers makes a solid of which some numbers are any.
func (m maker) anyNumbers() impl.Solid {
	s := scaled(m.convexSolid(), impl.Point{1, 1, 1})
	for range 1 + m.Intn(3) {
		s.Corners[m.Intn(len(s.Corners))][m.Intn(3)] = m.number()
	}
	return s
}

// brokenSolid makes a solid that is not valid, mostly, because something of it has been changed.
func (m maker) brokenSolid() impl.Solid {
	s := scaled(m.convexSolid(), impl.Point{1, 1, 1})
	face := m.Intn(len(s.Faces))
	loop := s.Faces[face]
	at := m.Intn(len(loop))
	switch m.Intn(12) {
	case 0:
		s.Faces = slices.Delete(s.Faces, face, face+1)
	case 1:
		s.Faces = append(s.Faces, slices.Clone(loop))
	case 2:
		slices.Reverse(loop)
	case 3:
		loop[at] = int16(m.Intn(len(s.Corners)+2) - 1)
	case 4:
		loop[at] = int16(m.Uint32())
	case 5:
		s.Faces[face] = slices.Delete(loop, at, at+1)
	case 6:
		s.Faces[face] = slices.Insert(loop, at, int16(m.Intn(len(s.Corners))))
	case 7:
		s.Corners = append(s.Corners, m.pointWithin(1))
	case 8:
		s.Corners = s.Corners[:len(s.Corners)-1]
	case 9:
		s.Corners[m.Intn(len(s.Corners))] = m.pointWithin(5)
	case 10:
		s.Corners, s.Faces = s.Corners[:m.Intn(len(s.Corners))], s.Faces[:face]
	case 11:
		return []impl.Solid{{}, {Corners: s.Corners}, {Faces: s.Faces}, {Corners: []impl.Point{}, Faces: [][]int16{}}}[m.Intn(4)]
	}
	return s
}

// solid makes a solid of any kind, mostly a valid and convex one.
func (m maker) solid() impl.Solid {
	switch m.Intn(20) {
	case 0:
		return m.brokenSolid()
	case 1:
		return m.anyNumbers()
	case 2, 3:
		return m.unevenSolid()
	case 4, 5:
		return m.tinySolid()
	case 6, 7:
		return m.bentSolid()
	case 8:
		return m.largeSolid()
	case 9, 10, 11, 12:
		return m.squareSolid()
	}
	return m.convexSolid()
}

// placeNear makes a point that is mostly near a solid, in a plane of it, or a corner of it.
func (m maker) placeNear(s impl.Solid) impl.Point {
	if len(s.Corners) == 0 {
		return m.point()
	}
	p := s.Corners[m.Intn(len(s.Corners))]
	switch m.Intn(8) {
	case 0:
		return m.point()
	case 1:
		return p
	case 2:
		return impl.Point{p[0] + m.nothing(), p[1] + float32(m.Intn(5)-2), p[2] + float32(m.Intn(5)-2)}
	case 3:
		return wantBetween(p, s.Corners[m.Intn(len(s.Corners))], m.Float32())
	case 4:
		return impl.Point{float32(m.Intn(9) - 4), float32(m.Intn(9) - 4), float32(m.Intn(9) - 4)}
	}
	return sums(p, m.pointWithin([]float32{0.01, 1, 10}[m.Intn(3)]))
}
