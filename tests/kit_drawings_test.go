package tests

import (
	"math"
	"slices"

	"loop.example/g01249/impl"
)

// anyMark makes a mark of any numbers, some of which are just at a limit.
func (m maker) anyMark() impl.Mark {
	special := []int16{0, -1, 1, 63, 64, 499, 500, 501, -499, -500, -501, 32767, -32768}
	number := func() int16 {
		if m.Intn(2) == 0 {
			return special[m.Intn(len(special))]
		}
		return int16(m.Uint32())
	}
	return impl.Mark{number(), number()}
}

// markWithin makes a mark whose numbers are at least low and at most high.
func (m maker) markWithin(low, high int) impl.Mark {
	return impl.Mark{int16(low + m.Intn(high-low+1)), int16(low + m.Intn(high-low+1))}
}

// validMark makes a mark that is valid, mostly one on the sheet or near it.
func (m maker) validMark() impl.Mark {
	switch m.Intn(6) {
	case 0:
		return m.markWithin(-500, 500)
	case 1:
		return m.markWithin(-12, 75)
	case 2:
		return m.markWithin(20, 26)
	case 3:
		number := func() int16 { return []int16{0, -1, 63, 64, 500, -500, 31, 32}[m.Intn(8)] }
		return impl.Mark{number(), number()}
	}
	return m.markWithin(0, 63)
}

// mark makes a mark that is mostly valid.
func (m maker) mark() impl.Mark {
	if m.Intn(40) == 0 {
		return m.anyMark()
	}
	return m.validMark()
}

// dash makes a dash, mostly one of the four.
func (m maker) dash() int8 {
	if m.Intn(20) == 0 {
		return []int8{4, -1, 5, 127, -128}[m.Intn(5)]
	}
	return int8(m.Intn(4))
}

func (m maker) validStroke() impl.Stroke {
	s := impl.Stroke{A: m.validMark(), B: m.validMark(), Dash: int8(m.Intn(4))}
	switch m.Intn(8) {
	case 0:
		s.B = s.A
	case 1:
		s.B[m.Intn(2)] = s.A[m.Intn(2)]
	}
	return s
}

// stroke makes a stroke that is mostly valid.
func (m maker) stroke() impl.Stroke {
	s := m.validStroke()
	switch m.Intn(30) {
	case 0:
		s.A = m.anyMark()
	case 1:
		s.B = m.anyMark()
	case 2:
		s.Dash = m.dash()
	}
	return s
}

// validStrokes makes so many valid strokes. Many of them begin at equal distances.
func (m maker) validStrokes(n int) []impl.Stroke {
	list := make([]impl.Stroke, n)
	coarse := m.Intn(2) == 0
	for i := range list {
		list[i] = m.validStroke()
		if coarse {
			list[i].A, list[i].B = m.markWithin(-3, 3), m.markWithin(-3, 3)
		}
	}
	return list
}

// strokes makes a list of strokes, mostly valid ones, and mostly not too many.
func (m maker) strokes() []impl.Stroke {
	list := m.validStrokes([]int{0, 1, 1, 2, 3, 5, 8, 12, 20, 59, 60, 61, 100}[m.Intn(13)])
	if len(list) > 0 && m.Intn(12) == 0 {
		i := m.Intn(len(list))
		list[i] = []impl.Stroke{{A: m.anyMark(), B: m.anyMark(), Dash: m.dash()}, {Dash: 4}, {A: impl.Mark{501, 0}}}[m.Intn(3)]
	}
	return list
}

// orderOf makes an order of so many strokes, and what is turned; they are mostly as they should be.
func (m maker) orderOf(n int) ([]int64, []bool) {
	order, turned := make([]int64, n), make([]bool, n)
	for i, k := range m.Perm(n) {
		order[i], turned[i] = int64(k), m.Intn(2) == 0
	}
	switch m.Intn(24) {
	case 0:
		order = append(order, int64(m.Intn(n+1)))
	case 1:
		turned = append(turned, true)
	case 2:
		order, turned = order[:n/2], turned[:n/2]
	case 3:
		turned = turned[:n/2]
	case 4:
		if n > 0 {
			order[m.Intn(n)] = []int64{0, -1, int64(n), math.MaxInt64, math.MinInt64}[m.Intn(5)]
		}
	}
	return order, turned
}

// loop makes a loop of marks, mostly valid ones, and mostly neither too few nor too many.
func (m maker) loop() []impl.Mark {
	loop := make([]impl.Mark, []int{0, 1, 2, 3, 3, 4, 4, 5, 6, 8, 10, 16, 17}[m.Intn(13)])
	low, high := -10, 73
	switch m.Intn(6) {
	case 0:
		low, high = -500, 500
	case 1:
		low, high = 28, 36
	case 2:
		low, high = 70, 90
	case 3:
		low, high = -40, 20
	}
	for i := range loop {
		loop[i] = m.markWithin(low, high)
		if i > 0 && m.Intn(12) == 0 {
			// A side along a row or a column, or of one mark.
			loop[i][m.Intn(2)] = loop[i-1][m.Intn(2)]
		}
		if i > 0 && m.Intn(12) == 0 {
			loop[i] = loop[m.Intn(i)]
		}
	}
	if len(loop) > 0 && m.Intn(16) == 0 {
		loop[m.Intn(len(loop))] = m.anyMark()
	}
	return loop
}

// sheet makes a sheet of any bits, or of all, or of none.
func (m maker) sheet() impl.Sheet {
	var x impl.Sheet
	kind := m.Intn(4)
	for y := range x {
		x[y] = []uint64{0, math.MaxUint64, m.Uint64(), m.Uint64() & m.Uint64() & m.Uint64()}[kind]
	}
	return x
}

// sightOf makes a camera that looks at solids from outside, mostly ahead of all of them.
func (m maker) sightOf(list ...impl.Solid) impl.Camera {
	var middle impl.Point
	if corners := slices.Concat(cornersOf(list)...); len(corners) > 0 {
		middle = corners[m.Intn(len(corners))]
	}
	for {
		c := impl.Camera{At: sums(middle, m.pointWithin(0.5)), Up: m.pointWithin(2), Far: 0.5 + 3*m.Float32(), Near: 0.1 + m.Float32()}
		way, code := wantUnitOfAny(m.pointWithin(1))
		if code != impl.OK {
			continue
		}
		reach := 8 + 6*m.Float32()
		switch m.Intn(12) {
		case 0:
			// So near that something may be behind it.
			reach = 2 * m.Float32()
		case 1:
			// It looks past something whose spots need not be plain.
			c.Far, c.At, reach = impl.MaxSize, sums(middle, m.pointWithin(8)), 5
		}
		c.Eye = sums(c.At, wantScale(way, reach))
		up, upCode := wantUnitOfAny(c.Up)
		if upCode == impl.OK && wantLength(wantCross(way, up)) > 0.2 {
			return c
		}
	}
}

func cornersOf(list []impl.Solid) [][]impl.Point {
	var corners [][]impl.Point
	for _, s := range list {
		corners = append(corners, s.Corners)
	}
	return corners
}

// scale makes a scale, mostly one with which something lies on the sheet.
func (m maker) scale() float32 {
	switch m.Intn(24) {
	case 0:
		return m.number()
	case 1:
		return m.plain()
	case 2, 3:
		return -m.Float32() * 60
	case 4, 5, 6, 7:
		return float32(1+m.Intn(8)) * 8
	}
	return 10 + m.Float32()*70
}

// spotForScale makes a spot and a scale whose product is often a half, nearly, or is too large.
func (m maker) spotForScale() (impl.Spot, float32) {
	s, scale := m.spot(), m.scale()
	switch m.Intn(5) {
	case 0:
		s, scale = impl.Spot{float32(m.Intn(81)-40) / 2, float32(m.Intn(81)-40) / 2}, []float32{1, 3, 0.5, -1, -5}[m.Intn(5)]
	case 1:
		half := func() float32 {
			a := float32(m.Intn(41)-20) + 0.5
			return []float32{a, above(a), below(a)}[m.Intn(3)]
		}
		s, scale = impl.Spot{half(), half()}, 1
	case 2:
		s, scale = m.spotWithin(600), 1
	case 3:
		s = m.spotWithin(3)
	}
	return s, scale
}

// drawnSolid makes a solid that is drawn, mostly a convex one.
func (m maker) drawnSolid() impl.Solid {
	switch m.Intn(8) {
	case 0:
		return m.solid()
	case 1:
		return m.unevenSolid()
	case 2, 3:
		return m.squareSolid()
	}
	return m.convexSolid()
}

// drawnSolids makes a list of solids that are drawn, mostly so that there is an order.
func (m maker) drawnSolids() []impl.Solid {
	if m.Intn(8) == 0 {
		return m.solids()
	}
	list := make([]impl.Solid, []int{0, 1, 2, 2, 3, 3, 4, 6, 7}[m.Intn(9)])
	cells := m.Perm(12)
	for i := range list {
		cell := impl.Point{float32(6 * (cells[i] % 3)), float32(6 * (cells[i] / 3 % 2)), float32(6 * (cells[i] / 6))}
		list[i] = moved(m.squareSolid(), cell)
		switch m.Intn(12) {
		case 0:
			list[i] = moved(m.convexSolid(), m.pointWithin(6))
		case 1, 2, 3:
			list[i] = moved(m.shape(), cell)
		}
		if m.Intn(30) == 0 {
			list[i] = m.solid()
		}
	}
	return list
}
