package tests

import (
	"math"
	"slices"

	"loop.example/g01249/impl"
)

// photo makes a map that is mostly valid.
func (m maker) photo() impl.Map {
	n := m.validPhoto()
	switch m.Intn(16) {
	case 0:
		for i := range n {
			n[i] = m.number()
		}
	case 1:
		n[m.Intn(9)] = m.number()
	case 2:
		// One row is nearly a multiple of another one.
		i, k := m.Intn(3), m.Intn(3)
		row := wantScale(impl.Point(n[3*k:3*k+3]), m.within(2))
		copy(n[3*i:], row[:])
	case 3:
		return m.narrowPhoto()
	}
	return n
}

// validPhoto makes a valid map of one of several kinds.
func (m maker) validPhoto() impl.Map {
	for {
		if n := m.photoOfKind(m.Intn(8)); wantValidMap(n) {
			return n
		}
	}
}

func (m maker) photoOfKind(kind int) impl.Map {
	var n impl.Map
	size := []float32{3, 3, 0.05, impl.MaxSize, 20}[min(kind, 4)]
	for i := range n {
		switch kind {
		case 5:
			n[i] = []float32{0, minusZero, 1, -1, 2, -2, 0.5}[m.Intn(7)]
		case 6:
			n[i] = m.plain()
		default:
			n[i] = m.within(size)
		}
	}
	if kind == 7 {
		return m.gentlePhoto()
	}
	return n
}

// gentlePhoto makes a map that sends spots near 0, 0 to spots that are not far away.
func (m maker) gentlePhoto() impl.Map {
	return impl.Map{
		1 + m.within(0.4), m.within(0.4), m.within(2),
		m.within(0.4), 1 + m.within(0.4), m.within(2),
		m.within(0.1), m.within(0.1), 1 + m.within(0.3),
	}
}

// narrowPhoto makes a map with a determinant near the limit.
func (m maker) narrowPhoto() impl.Map {
	var n impl.Map
	edge := []float32{limit, below(limit), -limit, above(-limit), above(limit), 0}[m.Intn(6)]
	numbers := []float32{edge, 1, 1}
	for i, k := range m.Perm(3) {
		n[3*i+k] = numbers[i]
	}
	return n
}

// spotFor makes a spot that a map may send; a few have a w that is nearly, or just, small.
func (m maker) spotFor(n impl.Map) impl.Spot {
	s := m.spotWithin(4)
	switch m.Intn(8) {
	case 0:
		return m.spot()
	case 1:
		if n[7] != 0 {
			s[1] = quotient(opposite(sum(n[8], product(n[6], s[0]))), n[7])
		}
	case 2:
		if n[6] != 0 {
			s[0] = quotient(opposite(sum(n[8], product(n[7], s[1]))), n[6])
		}
	case 3:
		s = impl.Spot{float32(m.Intn(5) - 2), float32(m.Intn(5) - 2)}
	}
	if !plainSpots(s) {
		return m.spotWithin(4)
	}
	return s
}

// spotsFor makes a list of spots that a map may send, most of them ordinary, mostly not too many.
func (m maker) spotsFor(n impl.Map) []impl.Spot {
	list := make([]impl.Spot, []int{0, 1, 2, 3, 5, 8, 20, 99, 100, 101, 150}[m.Intn(11)])
	for i := range list {
		list[i] = m.spotWithin(4)
		if m.Intn(4*len(list)) == 0 {
			list[i] = m.spotFor(n)
		}
	}
	return list
}

// convexFour makes four spots that are convex, and not small, to the left or to the right.
func (m maker) convexFour() [4]impl.Spot {
	by, to := 0.3+m.Float64()*2, m.spotWithin(2)
	start, turn := m.Float64(), []float64{1, -1}[m.Intn(2)]
	for {
		var four [4]impl.Spot
		for i := range four {
			sine, cosine := math.Sincos(2 * math.Pi * (start + turn*(float64(i)+float64(m.within(0.3)))/4))
			reach := by * (1 + float64(m.within(0.2)))
			four[i] = impl.Spot{to[0] + float32(cosine*reach), to[1] + float32(sine*reach)}
		}
		if wantConvexFour(four) {
			return four
		}
	}
}

// four makes four spots; many are not convex, or even the same.
func (m maker) four() [4]impl.Spot {
	var four [4]impl.Spot
	kind := m.Intn(9)
	for i := range four {
		switch kind {
		case 0:
			four[i] = m.spot()
		case 1, 2:
			four[i] = impl.Spot{float32(m.Intn(4) - 1), float32(m.Intn(4) - 1)}
		case 3:
			four[i] = m.spotWithin(impl.MaxSize)
		case 4:
			four[i] = m.spotWithin(0.01)
		default:
			four[i] = m.spotWithin(3)
		}
	}
	switch kind {
	case 5, 6:
		return m.convexFour()
	case 7:
		return m.squareFour()
	case 8:
		// Three lie on one line, nearly.
		i, share := m.Intn(4), m.Float32()
		four[i] = wantBetweenSpots(four[(i+1)%4], four[(i+2)%4], share)
	}
	return four
}

// squareFour makes the corners of a square along the axes, in any order that goes round, so that there are many zeros and equal sizes.
func (m maker) squareFour() [4]impl.Spot {
	low, high := m.nothing(), []float32{1, 2, -1, 0.5, 3}[m.Intn(5)]
	list := []impl.Spot{{low, low}, {high, low}, {high, high}, {low, high}}
	if m.Intn(2) == 0 {
		slices.Reverse(list)
	}
	first := m.Intn(4)
	return [4]impl.Spot(append(list[first:], list[:first]...))
}

func wantBetweenSpots(a, b impl.Spot, share float32) impl.Spot {
	between := func(k int) float32 { return sum(a[k], product(share, difference(b[k], a[k]))) }
	return impl.Spot{between(0), between(1)}
}

// spotsOfLine makes four spots that lie on a line, nearly; some are the same.
func (m maker) spotsOfLine() [4]impl.Spot {
	from, way := m.spotWithin(3), m.spotWithin(2)
	switch m.Intn(6) {
	case 0:
		from = impl.Spot{float32(m.Intn(5)), float32(m.Intn(5))}
		way = impl.Spot{float32(m.Intn(3) - 1), float32(m.Intn(3) - 1)}
	case 1:
		way = wantScaleSpot(impl.Spot{float32(m.Intn(3) - 1), float32(m.Intn(3) - 1)}, m.within(2))
	case 2:
		way = wantScaleSpot(way, 0.001)
	}
	var four [4]impl.Spot
	whole := m.Intn(2) == 0
	for i := range four {
		share := m.within(4)
		if whole {
			share = float32(m.Intn(9) - 4)
		}
		four[i] = wantBetweenSpots(from, impl.Spot{sum(from[0], way[0]), sum(from[1], way[1])}, share)
	}
	if m.Intn(12) == 0 {
		four[m.Intn(4)] = m.spot()
	}
	return four
}

func wantScaleSpot(s impl.Spot, by float32) impl.Spot {
	return impl.Spot{product(s[0], by), product(s[1], by)}
}

// line makes the three numbers of a line, mostly plain ones.
func (m maker) line() impl.Point {
	switch m.Intn(4) {
	case 0:
		return m.point()
	case 1:
		return impl.Point{float32(m.Intn(3) - 1), float32(m.Intn(3) - 1), float32(m.Intn(5) - 2)}
	}
	return m.pointWithin(3)
}

// lineBeside makes a line that is sometimes along another one, nearly.
func (m maker) lineBeside(l impl.Point) impl.Point {
	other := m.line()
	switch m.Intn(4) {
	case 0:
		by := m.within(2)
		return impl.Point{product(l[0], by), product(l[1], by), other[2]}
	case 1:
		return sums(l, impl.Point{m.within(0.00001), m.within(0.00001), other[2]})
	}
	return other
}

// way makes a direction on a plane for MapOfPlane; some are short, or along an axis.
func (m maker) way() impl.Point {
	switch m.Intn(8) {
	case 0:
		return m.axis()
	case 1:
		return m.point()
	case 2:
		return m.pointWithin(0.01)
	}
	return m.pointWithin(3)
}
