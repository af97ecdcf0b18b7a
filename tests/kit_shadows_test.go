package tests

import (
	"loop.example/g01249/impl"
)

// lamp makes a lamp that is mostly valid, and mostly near.
func (m maker) lamp() impl.Lamp {
	l := m.validLamp()
	switch m.Intn(12) {
	case 0:
		l.At = m.anyPoint()
	case 1:
		l.Strong = m.number()
	case 2:
		l.Strong = []float32{below(0), above(impl.MaxStrong), -1, impl.MaxSize, nan, infinite}[m.Intn(6)]
	case 3:
		l.At = wantScale(impl.Point{m.within(1), m.within(1), m.within(1)}, 1.0/1024)
	case 4:
		l.At = impl.Point{m.nothing(), m.nothing(), m.nothing()}
		l.At[m.Intn(3)] = []float32{1.0 / 1024, below(1.0 / 1024), 0x1p-11}[m.Intn(3)]
	}
	return l
}

// validLamp makes a valid lamp, a third of them suns.
func (m maker) validLamp() impl.Lamp {
	l := impl.Lamp{At: m.pointWithin(10), Sun: m.Intn(3) == 0, Strong: m.Float32() * impl.MaxStrong}
	switch m.Intn(8) {
	case 0:
		l.At = impl.Point{float32(m.Intn(9) - 4), float32(m.Intn(9) - 4), 5}
	case 1:
		l.At = m.pointWithin(impl.MaxSize)
	case 2:
		l.At = wantScale(m.axis(), []float32{1, 4, 256, 1.0 / 1024}[m.Intn(4)])
	case 3:
		l.At = m.validPoint()
	case 4:
		l.Strong = []float32{0, minusZero, impl.MaxStrong, tiniest, 1}[m.Intn(5)]
	}
	if !wantValidLamp(l) {
		return m.validLamp()
	}
	return l
}

// lamps makes a list of lamps, mostly valid ones, and mostly not too many.
func (m maker) lamps() []impl.Lamp {
	list := make([]impl.Lamp, []int{0, 1, 1, 2, 2, 3, 4, 6, 6, 7}[m.Intn(10)])
	for i := range list {
		list[i] = m.validLamp()
		if m.Intn(60) == 0 {
			list[i] = m.lamp()
		}
	}
	return list
}

// fewSolids makes a list of solids, mostly valid and convex ones, and mostly not too many.
func (m maker) fewSolids() []impl.Solid {
	switch m.Intn(8) {
	case 0:
		return nil
	case 1:
		return m.solids()
	}
	list := make([]impl.Solid, 1+m.Intn(3))
	for i := range list {
		list[i] = m.shape()
		switch m.Intn(12) {
		case 0:
			list[i] = m.solid()
		case 1, 2:
			list[i] = m.convexSolid()
		case 3, 4, 5:
			list[i] = m.squareSolid()
		}
	}
	if m.Intn(12) == 0 {
		list[m.Intn(len(list))] = []impl.Solid{angle(), notched()}[m.Intn(2)]
	}
	return list
}

// placeBeside makes a point that is mostly near one of some solids.
func (m maker) placeBeside(list []impl.Solid) impl.Point {
	if len(list) == 0 || m.Intn(4) == 0 {
		return m.pointWithin(4)
	}
	return m.placeNear(list[m.Intn(len(list))])
}

// placeBehind makes a point whose way to a lamp goes through one of some solids, mostly, or ends ahead of it.
func (m maker) placeBehind(l impl.Lamp, list []impl.Solid) impl.Point {
	if len(list) == 0 || !wantValidLamp(l) {
		return m.pointWithin(4)
	}
	s := list[m.Intn(len(list))]
	if len(s.Corners) == 0 {
		return m.pointWithin(4)
	}
	p := wantBetween(s.Corners[m.Intn(len(s.Corners))], s.Corners[m.Intn(len(s.Corners))], m.Float32())
	way, _ := wantUnitOfAny(wantWay(l, p))
	return wantLess(p, wantScale(way, m.within(8)))
}

// place makes a place on a plane that is mostly plain.
func (m maker) place() place {
	if m.Intn(60) == 0 {
		return place{m.number(), m.number()}
	}
	return place{m.plain(), m.plain()}
}

// places makes a list of places; in many lists some are equal, or on a line.
func (m maker) places() []place {
	n := m.Intn(12)
	if m.Intn(8) == 0 {
		n = 60 + m.Intn(7)
	}
	list := make([]place, n)
	kind, by := m.Intn(8), m.pointWithin(3)
	for i := range list {
		whole := place{float32(m.Intn(4) - 1), float32(m.Intn(4) - 1)}
		switch kind {
		case 0:
			list[i] = m.place()
		case 1, 2:
			list[i] = whole
		case 3:
			list[i] = place{m.nothing(), m.nothing()}
		case 4:
			// They lie on a line, but for roundings.
			list[i] = place{product(whole[0], by[0]), sum(by[2], product(whole[0], by[1]))}
		case 5:
			list[i] = place{m.within(impl.MaxSize), m.within(impl.MaxSize)}
		default:
			list[i] = place{m.within(2), m.within(2)}
		}
	}
	if n > 0 && m.Intn(40) == 0 {
		list[m.Intn(n)][m.Intn(2)] = m.number()
	}
	return list
}

// groundPlane makes a plane that is mostly valid, many of them along axes, or with numbers of equal sizes.
func (m maker) groundPlane() impl.Plane {
	switch m.Intn(6) {
	case 0:
		return m.plane()
	case 1:
		return impl.Plane{N: m.axis(), D: float32(m.Intn(9) - 4)}
	case 2:
		x, _ := wantPlane(m.pointWithin(3), impl.Point{float32(m.Intn(3) - 1), float32(m.Intn(3) - 1), 1})
		return x
	}
	x := m.validPlane()
	x.D = m.within(6)
	return x
}

// parts makes a number of parts; some are not permitted.
func (m maker) parts() int64 {
	switch m.Intn(8) {
	case 0:
		return []int64{0, -1, 17, 16, 18, 1 << 40, -1 << 60}[m.Intn(7)]
	case 1:
		return int64(1 + m.Intn(16))
	}
	return int64(1 + m.Intn(4))
}
