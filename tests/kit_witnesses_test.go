package tests

import (
	"math"
	"slices"

	"loop.example/g01249/impl"
)

// someSolids makes so many convex solids, of kinds that go together with the camera that sees them.
func (m maker) someSolids(n int) []impl.Solid {
	list := make([]impl.Solid, n)
	kind := m.Intn(8)
	for i := range list {
		switch kind {
		case 0, 1:
			list[i] = m.squareSolid()
		case 2:
			list[i] = moved(m.squareSolid(), impl.Point{float32(3 * m.Intn(4)), float32(3 * m.Intn(4)), 0})
		case 3:
			list[i] = m.convexOf(m.tinySolid)
		case 4:
			list[i] = m.convexOf(m.bentSolid)
		default:
			list[i] = moved(m.convexSolid(), m.pointWithin(4))
		}
		if m.Intn(40) == 0 {
			list[i] = m.convexOf(m.largeSolid)
		}
		if i > 0 && m.Intn(12) == 0 {
			// The same one again, or a little aside.
			list[i] = moved(list[m.Intn(i)], impl.Point{float32(m.Intn(2)), 0, 0})
		}
	}
	return list
}

// convexOf makes solids until one is valid and convex.
func (m maker) convexOf(next func() impl.Solid) impl.Solid {
	for {
		if s := next(); wantValid(s) && wantConvex(s) {
			return s
		}
	}
}

// wholeCamera makes a camera that looks along an axis; its eye has whole numbers, and often one of a corner,
// so that it may lie in the plane of a face.
func (m maker) wholeCamera(list []impl.Solid) impl.Camera {
	c := m.squareCamera()
	c.Eye = impl.Point{float32(m.Intn(11) - 5), float32(m.Intn(11) - 5), float32(m.Intn(9) - 4)}
	if corners := slices.Concat(cornersOf(list)...); len(corners) > 0 && m.Intn(2) == 0 {
		k := m.Intn(3)
		c.Eye[k] = corners[m.Intn(len(corners))][k]
	}
	c.At, c.Near = sums(c.Eye, m.axis()), []float32{0.5, 1, 1.0 / 64, 2}[m.Intn(4)]
	return c
}

// validScene makes a valid scene.
func (m maker) validScene() impl.Scene {
	for {
		x := impl.Scene{Solids: m.someSolids([]int{0, 1, 1, 2, 2, 3, 3, 4, 5, 6}[m.Intn(10)])}
		switch m.Intn(8) {
		case 0, 1, 2:
			x.Camera = m.wholeCamera(x.Solids)
		case 3:
			// The eye is near something, or inside of it.
			x.Camera = m.sightOf(x.Solids...)
			x.Camera.Near = 1.0 / 64
			if len(x.Solids) > 0 {
				by := wantLess(m.placeNear(x.Solids[0]), x.Camera.Eye)
				x.Camera.Eye, x.Camera.At = sums(x.Camera.Eye, by), sums(x.Camera.At, by)
			}
		default:
			x.Camera = m.sightOf(x.Solids...)
		}
		if codeOfScene(x) == codeOK {
			return x
		}
	}
}

// scene makes a scene that is mostly valid.
func (m maker) scene() impl.Scene {
	x := m.validScene()
	switch m.Intn(24) {
	case 0:
		x.Camera = m.camera()
	case 1:
		x.Solids = append(x.Solids, m.solid())
	case 2:
		x.Solids = append(x.Solids, m.unevenSolid())
	case 3:
		x.Solids = append(x.Solids, m.brokenSolid())
	case 4:
		for len(x.Solids) < 7 {
			x.Solids = append(x.Solids, m.squareSolid())
		}
	}
	return x
}

// sightPoint makes a point of a scene, mostly one on a solid, or ahead of it or behind it.
func (m maker) sightPoint(x impl.Scene) impl.Point {
	eye, p := x.Camera.Eye, m.placeBeside(x.Solids)
	switch m.Intn(10) {
	case 0, 1:
		return wantBetween(eye, p, 1+3*m.Float32())
	case 2:
		return wantBetween(eye, p, m.Float32())
	case 3:
		return m.pointOnHit(x, p)
	case 4:
		return m.nearNear(x)
	case 5:
		return m.middleOfFace(x)
	case 6:
		return []impl.Point{eye, x.Camera.At, m.point(), m.pointWithin(impl.MaxSize)}[m.Intn(4)]
	}
	return p
}

// pointOnHit makes a point on the way to another one that is hit at a share near the one that counts.
func (m maker) pointOnHit(x impl.Scene, p impl.Point) impl.Point {
	if codeOfScene(x, p) != codeOK {
		return p
	}
	hits := hitsOn(x.Solids, x.Camera.Eye, p)
	if len(hits) == 0 {
		return p
	}
	share := float32(1024.0 / 1023)
	for range m.Intn(8) {
		share = []float32{above(share), below(share)}[m.Intn(2)]
	}
	return wantBetween(x.Camera.Eye, hits[0].At, share)
}

// nearNear makes a point that is about as deep as Near.
func (m maker) nearNear(x impl.Scene) impl.Point {
	f, valid := wantFrame(x.Camera)
	if !valid {
		return m.point()
	}
	near := x.Camera.Near
	depth := []float32{near, above(near), below(near), -near, 0}[m.Intn(5)]
	return sums(x.Camera.Eye, wantScale(f.Ahead, depth), wantScale(f.Right, float32(m.Intn(3)-1)))
}

func (m maker) middleOfFace(x impl.Scene) impl.Point {
	if len(x.Solids) == 0 {
		return m.point()
	}
	s := x.Solids[m.Intn(len(x.Solids))]
	if !wantValid(s) {
		return m.point()
	}
	loop := s.Faces[m.Intn(len(s.Faces))]
	p := s.Corners[loop[0]]
	for _, i := range loop[1:] {
		p = sums(p, s.Corners[i])
	}
	return numberwise(quotient, p, everywhere(float32(len(loop))))
}

// claim makes a claim, mostly one that is accepted, or nearly so.
func (m maker) claim(x impl.Scene) impl.Claim {
	p := m.sightPoint(x)
	c, code := wantClaimFor(x, p)
	if code != codeOK {
		c = impl.Claim{Kind: int8(1 + m.Intn(3)), At: p}
	}
	switch m.Intn(16) {
	case 0, 1:
		c = m.otherHidden(x, p)
	case 2, 3:
		c = m.otherSeen(x, p)
	case 4:
		c.Kind = int8(1 + m.Intn(3))
	case 5, 6, 7, 8, 9:
		c = m.falsified(c)
	}
	if m.Intn(200) == 0 {
		c.At = m.point()
	}
	return c
}

// otherHidden makes a claim that a point is hidden by any face, with the share of its plane.
func (m maker) otherHidden(x impl.Scene, p impl.Point) impl.Claim {
	c := impl.Claim{Kind: 2, At: p}
	if codeOfScene(x) != codeOK || len(x.Solids) == 0 {
		return c
	}
	c.Solid = int64(m.Intn(len(x.Solids)))
	s := x.Solids[c.Solid]
	list := crossingsOf(s, x.Camera.Eye, p)
	if hit, code := hitOf(s, x.Camera.Eye, p); code == codeOK && m.Intn(2) == 0 {
		// It need not be the first solid that is hit.
		c.Face, c.Share = hit.Face, hit.Share
		return c
	}
	c.Face = int64(m.Intn(len(list)))
	c.Share = list[c.Face].t
	return c
}

// otherSeen makes a claim that a point is seen, by any faces.
func (m maker) otherSeen(x impl.Scene, p impl.Point) impl.Claim {
	c := impl.Claim{Kind: 1, At: p}
	for _, s := range x.Solids {
		face := m.Intn(len(s.Faces)+1) - 1
		for k := range s.Faces {
			if m.Intn(3) > 0 && wantValid(s) && plain(p[:]...) && bothOutside(s, k, x.Camera.Eye, p) {
				face = k
			}
		}
		c.Free = append(c.Free, int16(face))
	}
	return c
}

// falsified changes a field of a claim; it may be one that is not used.
func (m maker) falsified(c impl.Claim) impl.Claim {
	index := []int64{-1, 0, 1, 2, 5, 6, math.MaxInt64, math.MinInt64, 1 << 32}[m.Intn(9)]
	switch m.Intn(9) {
	case 0:
		c.Kind = []int8{0, 4, -1, 127, -128, 1, 2, 3}[m.Intn(8)]
	case 1:
		c.Solid = index
	case 2:
		c.Face = index
	case 3:
		c.Share = []float32{above(c.Share), below(c.Share), 0, minusZero, nan, infinite, 1, nearlyAll, m.number()}[m.Intn(9)]
	case 4:
		c.Free = append(slices.Clone(c.Free), int16(m.Intn(4)-2))
	case 5:
		c.Free = c.Free[:len(c.Free)/2]
	case 6:
		c.Free = slices.Clone(c.Free)
		if len(c.Free) > 0 {
			c.Free[m.Intn(len(c.Free))] = []int16{-1, -2, 0, 1, 4, 6, 14, 32767, -32768}[m.Intn(9)]
		}
	case 7:
		c.At[m.Intn(3)] += []float32{0.001, -0.001, 1}[m.Intn(3)]
	case 8:
		c.Share = -c.Share
	}
	return c
}

// claims makes a list of claims, mostly not too many.
func (m maker) claims(x impl.Scene) []impl.Claim {
	list := make([]impl.Claim, []int{0, 1, 2, 3, 5, 8, 13}[m.Intn(7)])
	mostly := m.Intn(3)
	for i := range list {
		list[i] = m.claim(x)
		if mostly > 0 && codeOfScene(x, list[i].At) == codeOK {
			// One that is accepted.
			list[i] = claimOf(x, list[i].At)
		}
	}
	if len(list) > 0 && m.Intn(16) == 0 {
		list = slices.Repeat(list, 61/len(list)+m.Intn(2))
	}
	return list
}

// orderFor makes an order of so many solids, mostly one that has each index once.
func (m maker) orderFor(x impl.Scene) []int64 {
	n := len(x.Solids)
	if order, code := wantOrderSolids(x.Solids, x.Camera.Eye); code == codeOK && m.Intn(2) == 0 {
		if n > 1 && m.Intn(2) == 0 {
			k := m.Intn(n - 1)
			order[k], order[k+1] = order[k+1], order[k]
		}
		return order
	}
	order, _ := m.orderOf(n)
	return order
}

// lineIn makes both ends of a line of a scene; often they are corners, or the same.
func (m maker) lineIn(x impl.Scene) (impl.Point, impl.Point) {
	a, b := m.sightPoint(x), m.sightPoint(x)
	switch m.Intn(12) {
	case 0:
		return a, a
	case 1:
		// It goes through the eye.
		return a, wantBetween(a, x.Camera.Eye, 2)
	case 2:
		return wantLess(a, m.pointWithin(8)), sums(a, m.pointWithin(8))
	case 5:
		// It is so short that shares are infinite.
		return impl.Point{}, wantScale(m.axis(), []float32{tiniest, 0x1p-126, 0x1p-100}[m.Intn(3)])
	case 3, 4:
		// It is behind something, and reaches to both sides of it.
		p, by := m.placeBeside(x.Solids), m.pointWithin(8)
		return wantBetween(x.Camera.Eye, sums(p, by), 1.5), wantBetween(x.Camera.Eye, wantLess(p, by), 1.5)
	}
	return a, b
}

// step makes a way by which a solid is moved; some are too far.
func (m maker) step() impl.Point {
	switch m.Intn(8) {
	case 0:
		return m.point()
	case 1:
		return m.pointWithin(impl.MaxSize)
	case 2:
		return impl.Point{float32(m.Intn(3) - 1), float32(m.Intn(3) - 1), 0}
	}
	return m.pointWithin(6)
}

// crowded makes a scene that is so far away that no solid hides anything of itself: it may have too many lines.
func (m maker) crowded() impl.Scene {
	var x impl.Scene
	for range 6 {
		s := octagons()
		if m.Intn(8) == 0 {
			s = m.shape()
		}
		x.Solids = append(x.Solids, moved(s, m.pointWithin(20)))
	}
	x.Camera = with(func(c *impl.Camera) { c.Eye[1], c.Far = -20000, 1000 })
	return x
}
