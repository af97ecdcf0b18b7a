package tests

import (
	"math"
	"testing"

	"loop.example/g01249/impl"
)

// isNearMap reports whether the numbers of two maps are the same, nearly.
func isNearMap(m, n impl.Map) bool {
	for i := range m {
		if !near(m[i]-n[i], n[i]) {
			return false
		}
	}
	return true
}

func TestExampleOfPhotographs(t *testing.T) {
	m, code := impl.MapFromFour(square, strip(2, 2))
	same(t, "MapFromFour", all(isNearMap(m, doubled), code), all(true, codeOK))
	same(t, "ScaledMap", all(impl.ScaledMap(doubled)), all(impl.Map{1, 0, 0, 0, 1, 0, 0, 0, 0.5}, codeOK))
	same(t, "AreaOfFour", all(impl.AreaOfFour(square)), all(float32(1)))
	l, code := impl.LineThrough(impl.Spot{0, 0}, impl.Spot{1, 1})
	k, otherCode := impl.LineThrough(impl.Spot{0, 1}, impl.Spot{1, 0})
	same(t, "LineThrough", all(code, otherCode), all(codeOK, codeOK))
	same(t, "MeetSpots", all(impl.MeetSpots(l, k)), all(impl.Spot{0.5, 0.5}, codeOK))
	ratio, code := impl.CrossRatio(impl.Spot{0, 0}, impl.Spot{1, 0}, impl.Spot{2, 0}, impl.Spot{3, 0})
	same(t, "CrossRatio", all(near(ratio-4.0/3.0, 0), code), all(true, codeOK))
	same(t, "MeasureFrom", all(impl.MeasureFrom(impl.Spot{0, 0}, impl.Spot{1, 0}, impl.Spot{4, 0}, impl.Spot{2, 0}, 1)), all(float32(3), codeOK))
}

// moved4 adds to all spots of a four.
func moved4(four [4]impl.Spot, x, y float32) [4]impl.Spot {
	for i := range four {
		four[i] = impl.Spot{four[i][0] + x, four[i][1] + y}
	}
	return four
}

// strip is a four along the axes with a width and a height.
func strip(x, y float32) [4]impl.Spot { return [4]impl.Spot{{0, 0}, {x, 0}, {x, y}, {0, y}} }

// back4 goes round a four the other way, from the same spot on.
func back4(four [4]impl.Spot) [4]impl.Spot { return [4]impl.Spot{four[0], four[3], four[2], four[1]} }

// on4 goes round a four from the next spot on.
func on4(four [4]impl.Spot) [4]impl.Spot { return [4]impl.Spot{four[1], four[2], four[3], four[0]} }

func TestMapFromFour(t *testing.T) {
	wide := strip(4, 4)
	// trapeze is what is seen of the square by a camera for which w is 1 + y.
	trapeze := [4]impl.Spot{{0, 0}, {1, 0}, {0.5, 0.5}, {0, 0.5}}
	for _, c := range []struct {
		from, to [4]impl.Spot
		want     impl.Map
	}{
		{square, square, same3},
		{square, wide, diagonal(4, 4, 1)},
		{wide, square, diagonal(0.25, 0.25, 1)},
		{square, moved4(square, 3, -2), impl.Map{1, 0, 3, 0, 1, -2, 0, 0, 1}},
		{moved4(square, 3, -2), square, impl.Map{1, 0, -3, 0, 1, 2, 0, 0, 1}},
		// It mirrors, or turns.
		{square, back4(square), impl.Map{0, 1, 0, 1, 0, 0, 0, 0, 1}},
		{square, on4(square), impl.Map{0, -1, 1, 1, 0, 0, 0, 0, 1}},
		{on4(square), square, impl.Map{0, 1, 0, -1, 0, 1, 0, 0, 1}},
		{on4(square), on4(square), same3},
		{square, trapeze, impl.Map{1, 0, 0, 0, 1, 0, 0, 1, 1}},
		{trapeze, square, impl.Map{1, 0, 0, 0, 1, 0, 0, -1, 1}},
		{trapeze, trapeze, same3},
		// The fours need not be convex: both may cross, or only one.
		{[4]impl.Spot{{0, 0}, {1, 1}, {1, 0}, {0, 1}}, [4]impl.Spot{{0, 0}, {2, 2}, {2, 0}, {0, 2}}, doubled},
		{square, [4]impl.Spot{{0, 0}, {1, 1}, {1, 0}, {0, 1}}, impl.Map{-1, 0, 0, -1, 1, 0, -2, 0, 1}},
		// One lies within the other three.
		{[4]impl.Spot{{0, 0}, {3, 0}, {0, 3}, {1, 1}}, [4]impl.Spot{{1, 2}, {4, 2}, {1, 5}, {2, 3}}, impl.Map{1, 0, 1, 0, 1, 2, 0, 0, 1}},
		// It is not scaled: the last number is 1, and others are greater.
		{square, strip(1000, 1000), diagonal(1000, 1000, 1)}, {square, strip(impl.MaxSize, impl.MaxSize), diagonal(impl.MaxSize, impl.MaxSize, 1)},
		// The numbers in a column are only just not small.
		{strip(limit, 1), strip(0.75, 100000), diagonal(786432, 100000, 1)}, {strip(-limit, 1), strip(0.75, 100000), diagonal(-786432, 100000, 1)},
		{strip(1, limit), strip(100000, 0.75), diagonal(100000, 786432, 1)},
		// The determinant is only just great enough.
		{square, strip(1.0/1024, 1.0/1024), diagonal(1.0/1024, 1.0/1024, 1)},
	} {
		m, code := impl.MapFromFour(c.from, c.to)
		if code != impl.OK || !isNearMap(m, c.want) || m[8] != 1 {
			t.Errorf("MapFromFour %s: got %s, want nearly %s", row(c.from, c.to), row(m, code), row(c.want))
		}
		same(t, "MapFromFour "+row(c.from, c.to), all(m, code), two(wantMapFromFour(c.from, c.to)))
	}
}

func TestMapFromFourWithoutMap(t *testing.T) {
	line := [4]impl.Spot{{0, 0}, {1, 0}, {2, 0}, {3, 0}}
	bent := [4]impl.Spot{{0, 0}, {1, 0}, {2, 0}, {0, 1}}
	twice := [4]impl.Spot{{0, 0}, {1, 0}, {1, 0}, {0, 1}}
	for _, c := range [][2][4]impl.Spot{
		{{}, {}}, {{}, square}, {square, {}}, {line, square}, {square, line}, {line, line},
		{bent, square}, {square, bent}, {twice, square}, {square, twice}, {twice, twice},
		{bent, [4]impl.Spot{{0, 0}, {1, 0}, {5, 0}, {0, 1}}},
		// Three lie on a line, but in other places.
		{bent, on4(bent)},
		// A map sends the first spot to infinity: the last number cannot be 1.
		{[4]impl.Spot{{0, 0}, {1, 0}, {1, 1}, {0, 1}}, [4]impl.Spot{{0, 0}, {0, 0}, {1, 1}, {2, 2}}},
		// The numbers in a column are small, though a map could be calculated with them.
		{strip(below(limit), 1), strip(0.75, 100000)}, {strip(-below(limit), 1), strip(0.75, 100000)}, {strip(1, below(limit)), strip(100000, 0.75)},
		// The determinant is small.
		{square, strip(0.0009, 0.0009)}, {strip(1100, 1100), square},
		// A number of the map would be too great.
		{strip(0.5, 0.5), strip(impl.MaxSize, impl.MaxSize)}, {strip(below(1), 1), strip(impl.MaxSize, 1)},
	} {
		got, code := impl.MapFromFour(c[0], c[1])
		same(t, "MapFromFour "+row(c[0], c[1]), all(got, code), two(wantMapFromFour(c[0], c[1])))
		if code != impl.ErrState {
			t.Errorf("MapFromFour %s: got %s", row(c[0], c[1]), row(got, code))
		}
	}
	for i := range 4 {
		for _, s := range badSpots {
			four := square
			four[i] = s
			same(t, "MapFromFour "+row(s), all(impl.MapFromFour(four, square)), all(impl.Map{}, codeInvalid))
			same(t, "MapFromFour to "+row(s), all(impl.MapFromFour(square, four)), all(impl.Map{}, codeInvalid))
			same(t, "MapFromFour without map "+row(s), all(impl.MapFromFour(four, line)), all(impl.Map{}, codeInvalid))
			same(t, "MapFromFour to, without map "+row(s), all(impl.MapFromFour([4]impl.Spot{}, four)), all(impl.Map{}, codeInvalid))
		}
	}
}

// The first rows have 0 in the first columns, or many have the same size there: which rows change places tells in the last bits.
func TestRowsChangePlaces(t *testing.T) {
	zeros := [4]impl.Spot{{0, 0}, {0, 3}, {3, 3.1}, {3, 0}}
	equal := [4]impl.Spot{{1, 0.3}, {-1, 0.7}, {1, -1.1}, {-1, -0.9}}
	later := [4]impl.Spot{{0.1, 0.2}, {0.7, 0.1}, {3.3, 1.1}, {0.3, 1.7}}
	signs := [4]impl.Spot{{minusZero, minusZero}, {0, 1.1}, {1, 1.3}, {1, minusZero}}
	fours := [][4]impl.Spot{square, zeros, equal, later, signs, on4(square), on4(zeros), on4(equal), on4(later), on4(signs), back4(equal), back4(zeros)}
	for _, from := range fours {
		for _, to := range fours {
			same(t, "MapFromFour "+row(from, to), all(impl.MapFromFour(from, to)), two(wantMapFromFour(from, to)))
			e := elimination{rows: wantRows(from, to)}
			for k := range 8 {
				e.wantStep(k)
			}
			if e.changes == 0 {
				t.Errorf("no rows change places for %s", row(from, to))
			}
		}
	}
}

func TestMapOfPlane(t *testing.T) {
	x, z := impl.Point{1, 0, 0}, impl.Point{0, 0, 1}
	for _, c := range []struct {
		c       impl.Camera
		o, a, b impl.Point
		want    impl.Map
	}{
		// A wall straight ahead.
		{straight, impl.Point{0, 4, 0}, x, z, impl.Map{0.5, 0, 0, 0, 0.5, 0, 0, 0, 1}},
		{straight, impl.Point{1, 4, 2}, x, z, impl.Map{0.5, 0, 0.5, 0, 0.5, 1, 0, 0, 1}},
		{tilted, impl.Point{11, 24, 32}, x, z, impl.Map{0.5, 0, 0.5, 0, 0.5, 1, 0, 0, 1}},
		// The ground, one step beneath the eye.
		{straight, impl.Point{0, 0, -1}, x, impl.Point{0, 1, 0}, impl.Map{1, 0, 0, 0, 0, -1, 0, 0.5, 0}},
		{straight, impl.Point{0, 1, -1}, x, impl.Point{0, 1, 0}, impl.Map{1, 0, 0, 0, 0, -1, 0, 0.5, 0.5}},
		// A wall at the side, and one that goes away.
		{straight, impl.Point{1, 1, 0}, impl.Point{0, 1, 0}, z, impl.Map{0, 0, 1, 0, 1, 0, 0.5, 0, 0.5}},
		{straight, impl.Point{0, 4, 0}, impl.Point{1, 1, 0}, z, impl.Map{0.5, 0, 0, 0, 0.5, 0, 0.25, 0, 1}},
		// What is behind the eye counts as well.
		{straight, impl.Point{0, -4, 0}, x, z, impl.Map{-0.5, 0, 0, 0, -0.5, 0, 0, 0, 1}},
		// The numbers are just plain before they are divided by the greatest one.
		{straight, impl.Point{0, 4, 0}, impl.Point{500000, 0, 0}, impl.Point{0, 0, 500000}, impl.Map{1, 0, 0, 0, 1, 0, 0, 0, 0.000004}},
		{with(func(c *impl.Camera) { c.Far = 1 }), impl.Point{0, 500000, 0}, impl.Point{impl.MaxSize, 0, 0}, impl.Point{0, 0, impl.MaxSize}, impl.Map{1, 0, 0, 0, 1, 0, 0, 0, 0.5}},
	} {
		m, code := impl.MapOfPlane(c.c, c.o, c.a, c.b)
		if m != c.want || code != impl.OK {
			t.Errorf("MapOfPlane %s: got %s, want %s", row(c.c, c.o, c.a, c.b), row(m, code), row(c.want))
		}
		same(t, "MapOfPlane "+row(c.c, c.o, c.a, c.b), all(m, code), two(wantMapOfPlane(c.c, c.o, c.a, c.b)))
	}
}

func TestPlanesWithoutMap(t *testing.T) {
	x, y, z := impl.Point{1, 0, 0}, impl.Point{0, 1, 0}, impl.Point{0, 0, 1}
	for _, c := range []struct {
		c       impl.Camera
		o, a, b impl.Point
	}{
		// The camera sees the plane from its edge.
		{straight, impl.Point{}, x, y}, {straight, impl.Point{3, 4, 0}, x, y}, {straight, impl.Point{0, 4, 0}, y, z}, {tilted, tilted.Eye, x, z},
		{straight, impl.Point{0, 4, 0}, impl.Point{1, 1, 0}, impl.Point{-1, 1, 0}},
		{straight, impl.Point{3, 4, 0.0000001}, x, y},
		// There is no plane.
		{straight, impl.Point{0, 4, 0}, x, impl.Point{2, 0, 0}}, {straight, impl.Point{0, 4, 0}, impl.Point{}, z}, {straight, impl.Point{0, 4, 0}, x, impl.Point{}},
		{straight, impl.Point{}, impl.Point{}, impl.Point{}},
		// What is scaled is not valid.
		{straight, impl.Point{0, 4, 0}, impl.Point{0.001, 0, 0}, impl.Point{0, 0, 0.001}},
		{straight, impl.Point{0, 0.5, 0}, impl.Point{2000, 0, 0}, impl.Point{0, 0, 0.001}},
		// A number before it is scaled is not plain.
		{straight, impl.Point{0, 1, 0}, impl.Point{above(500000), 0, 0}, impl.Point{0, 0, 500000}},
		{straight, impl.Point{0, 1, 0}, impl.Point{500000, 0, 0}, impl.Point{0, 0, -above(500000)}},
		{straight, impl.Point{above(500000), impl.MaxSize, 0}, impl.Point{500000, 0, 0}, impl.Point{0, 0, 500000}},
		{with(func(c *impl.Camera) { c.Eye[1], c.At[1] = -1, 0 }), impl.Point{0, impl.MaxSize, 0}, impl.Point{500000, 0, 0}, impl.Point{0, 0, 500000}},
		{with(func(c *impl.Camera) { c.Far = impl.MaxSize }), impl.Point{0, 4, 0}, impl.Point{2, 0, 0}, impl.Point{0, 0, 2}},
	} {
		same(t, "MapOfPlane "+row(c.c, c.o, c.a, c.b), all(impl.MapOfPlane(c.c, c.o, c.a, c.b)), all(impl.Map{}, codeState))
	}
	for _, c := range badCameras() {
		same(t, "MapOfPlane "+row(c), all(impl.MapOfPlane(c, impl.Point{0, 4, 0}, x, z)), all(impl.Map{}, codeInvalid))
		same(t, "MapOfPlane without map "+row(c), all(impl.MapOfPlane(c, impl.Point{}, x, x)), all(impl.Map{}, codeInvalid))
	}
	for _, a := range wildNumbers {
		for i := range 3 {
			var p impl.Point
			p[i] = a
			same(t, "MapOfPlane "+row(p), all(impl.MapOfPlane(straight, p, x, z)), all(impl.Map{}, codeInvalid))
			same(t, "MapOfPlane "+row(p), all(impl.MapOfPlane(straight, impl.Point{0, 4, 0}, p, z)), all(impl.Map{}, codeInvalid))
			same(t, "MapOfPlane "+row(p), all(impl.MapOfPlane(straight, impl.Point{0, 4, 0}, x, p)), all(impl.Map{}, codeInvalid))
		}
	}
}

func TestTurnsLeft(t *testing.T) {
	for _, c := range []struct {
		a, b, c impl.Spot
		want    float32
	}{
		{impl.Spot{0, 0}, impl.Spot{1, 0}, impl.Spot{1, 1}, 1}, {impl.Spot{0, 0}, impl.Spot{1, 0}, impl.Spot{1, -1}, -1},
		{impl.Spot{1, 2}, impl.Spot{4, 3}, impl.Spot{3, 7}, 13}, {impl.Spot{1, 2}, impl.Spot{3, 7}, impl.Spot{4, 3}, -13},
		{impl.Spot{0, 0}, impl.Spot{1, 1}, impl.Spot{2, 2}, 0}, {impl.Spot{1, 1}, impl.Spot{1, 1}, impl.Spot{5, 6}, 0},
		{impl.Spot{}, impl.Spot{}, impl.Spot{}, 0}, {impl.Spot{0, 0}, impl.Spot{minusZero, 1}, impl.Spot{1, 0}, -1},
		{impl.Spot{0, 0}, impl.Spot{minusZero, 0}, impl.Spot{1, 1}, minusZero},
		// They may be any spots.
		{impl.Spot{0, 0}, impl.Spot{greatest, 0}, impl.Spot{0, 2}, infinite}, {impl.Spot{0, 0}, impl.Spot{0, 2}, impl.Spot{greatest, 0}, -infinite},
		{impl.Spot{0, 0}, impl.Spot{infinite, 0}, impl.Spot{1, 1}, infinite}, {impl.Spot{0, 0}, impl.Spot{infinite, 0}, impl.Spot{1, 0}, nan},
		{impl.Spot{nan, 0}, impl.Spot{1, 0}, impl.Spot{1, 1}, nan}, {impl.Spot{0, 0}, impl.Spot{1, 0}, impl.Spot{1, nan}, nan},
		{impl.Spot{-greatest, 0}, impl.Spot{greatest, 0}, impl.Spot{0, 1}, infinite}, {impl.Spot{0, 0}, impl.Spot{tiniest, 0}, impl.Spot{1, 0.5}, 0},
		{impl.Spot{0, 0}, impl.Spot{1 << 20, 1 << 20}, impl.Spot{1 << 20, 1<<20 + 1}, 1 << 20},
	} {
		same(t, "TurnsLeft "+row(c.a, c.b, c.c), all(impl.TurnsLeft(c.a, c.b, c.c)), all(c.want))
	}
	// The products are rounded before one is taken away.
	a, b, c := impl.Spot{}, impl.Spot{4097, 4095}, impl.Spot{4099, 4097}
	same(t, "TurnsLeft "+row(b, c), all(impl.TurnsLeft(a, b, c)), all(float32(4097*4097-1)-float32(4095*4099)))
}

func TestIsConvexFour(t *testing.T) {
	check := func(four [4]impl.Spot, want bool) {
		t.Helper()
		for range 4 {
			same(t, "IsConvexFour "+row(four), all(impl.IsConvexFour(four), impl.IsConvexFour(back4(four))), all(want, want))
			four = on4(four)
		}
	}
	small := float32(1.0 / 1024)
	huge := float32(0x1p100)
	for _, four := range [][4]impl.Spot{
		square, moved4(square, -5, 3), {{0, 0}, {3, 1}, {4, 5}, {-1, 2}}, {{0, 0}, {2, 1}, {2, 2}, {1, 2}},
		{{0, 0}, {impl.MaxSize, 0}, {impl.MaxSize, impl.MaxSize}, {0, impl.MaxSize}},
		// Just not small.
		{{0, 0}, {small, 0}, {small, small}, {0, small}}, {{0, 0}, {1, 0}, {1, limit}, {0, limit}},
		// They may be any spots.
		{{0, 0}, {2000000, 0}, {2000000, 2000000}, {0, 2000000}}, {{0, 0}, {huge, 0}, {huge, huge}, {0, huge}},
	} {
		check(four, true)
	}
	tight := below(small)
	for _, four := range [][4]impl.Spot{
		// All are the same, or two are, or they lie on a line.
		{}, {{1, 1}, {1, 1}, {1, 1}, {1, 1}}, {{0, 0}, {0, 0}, {1, 1}, {0, 1}}, {{0, 0}, {1, 1}, {0, 0}, {0, 1}}, {{0, 0}, {1, 1}, {2, 2}, {3, 3}},
		// Three lie on a line.
		{{0, 0}, {1, 0}, {2, 0}, {0, 1}}, {{0, 0}, {2, 0}, {1, 0}, {0, 1}}, {{0, 0}, {1, 0}, {1, 1}, {0.5, 0.5}},
		// They cross, or one lies within the others.
		{{0, 0}, {1, 1}, {1, 0}, {0, 1}}, {{0, 0}, {1, 0}, {0, 1}, {1, 1}}, {{0, 0}, {4, 0}, {1, 1}, {0, 4}}, {{0, 0}, {4, 0}, {0, 4}, {0.5, 0.5}},
		// They are small.
		{{0, 0}, {tight, 0}, {tight, tight}, {0, tight}}, {{0, 0}, {1, 0}, {1, below(limit)}, {0, below(limit)}},
		{{0, 0}, {1, 0}, {1, 1}, {0.5, 0.5000005}}, {{0, 0}, {tiniest, 0}, {tiniest, tiniest}, {0, tiniest}},
		// They are no numbers, or infinite ones.
		{{nan, 0}, {1, 0}, {1, 1}, {0, 1}}, {{0, 0}, {1, nan}, {1, 1}, {0, 1}}, {{0, 0}, {1, 0}, {infinite, 1}, {0, 1}}, {{0, 0}, {infinite, 0}, {infinite, infinite}, {0, infinite}},
		{{nan, nan}, {nan, nan}, {nan, nan}, {nan, nan}},
	} {
		check(four, false)
	}
}

func TestAreaOfFour(t *testing.T) {
	for _, c := range []struct {
		four [4]impl.Spot
		want float32
	}{
		{square, 1}, {back4(square), -1}, {on4(square), 1}, {moved4(square, 5, -7), 1}, {[4]impl.Spot{}, 0},
		{[4]impl.Spot{{0, 0}, {4, 0}, {1, 1}, {0, 4}}, 4}, {[4]impl.Spot{{0, 0}, {3, 1}, {4, 5}, {-1, 2}}, 12},
		// Both parts of those that cross are taken from each other.
		{[4]impl.Spot{{0, 0}, {1, 1}, {1, 0}, {0, 1}}, 0}, {[4]impl.Spot{{0, 0}, {1, 1}, {2, 2}, {3, 3}}, 0},
		{[4]impl.Spot{{0, 0}, {impl.MaxSize, 0}, {impl.MaxSize, impl.MaxSize}, {0, impl.MaxSize}}, 1e12},
		// They may be any spots.
		{[4]impl.Spot{{0, 0}, {greatest, 0}, {greatest, 2}, {0, 2}}, infinite}, {[4]impl.Spot{{0, 0}, {0, 2}, {greatest, 2}, {greatest, 0}}, -infinite},
		{[4]impl.Spot{{nan, 0}, {1, 0}, {1, 1}, {0, 1}}, nan}, {[4]impl.Spot{{0, 0}, {infinite, 0}, {1, 1}, {0, 1}}, nan}, {[4]impl.Spot{{1, 1}, {infinite, 2}, {3, 3}, {2, 4}}, nan},
		{[4]impl.Spot{{0, 0}, {tiniest, 0}, {tiniest, 1}, {0, 1}}, tiniest}, {[4]impl.Spot{{0, 0}, {tiniest, 0}, {0, 1}, {0, 0}}, 0},
		// The sum begins with 0, so that it is never -0.
		{[4]impl.Spot{{minusZero, 1}, {minusZero, 1}, {minusZero, 1}, {minusZero, 1}}, 0},
		{[4]impl.Spot{{0, -1}, {0, -1}, {minusZero, 1}, {0, -1}}, 0},
	} {
		same(t, "AreaOfFour "+row(c.four), all(impl.AreaOfFour(c.four)), all(c.want))
		same(t, "AreaOfFour again "+row(c.four), all(wantAreaOfFour(c.four)), all(c.want))
	}
	// Each difference is made before it is added.
	four := [4]impl.Spot{{1, 4096}, {4096, 16777216}, {3, 5}, {7, 2}}
	if got := impl.AreaOfFour(four); math.IsNaN(float64(got)) || !impl.SameNumber(got, wantAreaOfFour(four)) {
		t.Errorf("AreaOfFour %s: got %v", row(four), got)
	}
}
