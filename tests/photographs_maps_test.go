package tests

import (
	"math"
	"testing"

	"loop.example/g01249/impl"
)

var (
	// same3 is the map that sends each spot to itself, and doubled the one that doubles its numbers.
	same3   = impl.Map{1, 0, 0, 0, 1, 0, 0, 0, 1}
	doubled = impl.Map{2, 0, 0, 0, 2, 0, 0, 0, 1}
	// level5 has w for 5 - y: nothing is sent that is at the height 5.
	level5 = impl.Map{1, 0, 0, 0, 1, 0, 0, -1, 5}
	square = [4]impl.Spot{{0, 0}, {1, 0}, {1, 1}, {0, 1}}
)

// diagonal is a map with three numbers that stand in the middle of it.
func diagonal(a, b, c float32) impl.Map { return impl.Map{a, 0, 0, 0, b, 0, 0, 0, c} }

// nine is a map of nine equal numbers.
func nine(a float32) impl.Map { return impl.Map{a, a, a, a, a, a, a, a, a} }

// with9 returns a map with another number in one place.
func with9(m impl.Map, i int, a float32) impl.Map {
	m[i] = a
	return m
}

// otherNaN has other bits than nan, also another sign.
var otherNaN = math.Float32frombits(0xffc00001)

// wildNumbers are not plain.
var wildNumbers = []float32{above(impl.MaxSize), below(-impl.MaxSize), greatest, -greatest, infinite, -infinite, nan}

// wildMaps have a number that is not plain.
func wildMaps() []impl.Map {
	var list []impl.Map
	for i := range 9 {
		for _, a := range wildNumbers {
			list = append(list, with9(same3, i, a))
		}
	}
	return append(list, nine(nan), nine(infinite))
}

// smallMaps have plain numbers, but a determinant that is small.
func smallMaps() []impl.Map {
	return []impl.Map{
		{}, nine(minusZero), nine(1), nine(impl.MaxSize),
		diagonal(1, 1, 0), diagonal(1, 0, 1), diagonal(0, 1, 1), diagonal(1, 1, minusZero),
		diagonal(below(limit), 1, 1), diagonal(1, -below(limit), 1), diagonal(1, 1, above(-limit)), diagonal(tiniest, 1, 1),
		diagonal(1.0/1024, 1.0/1024, below(1)), diagonal(0.01, 0.01, 0.0095),
		{1, 2, 3, 2, 4, 6, 0, 0, 1}, {1, 2, 3, 4, 5, 6, 7, 8, 9}, {1, 0, 1, 0, 1, 0, 2, 0, 2},
		{1, 1, 0, 1, above(1), 0, 0, 0, 1},
		// The determinant is rounded to 0.
		diagonal(tiniest, tiniest, tiniest), diagonal(0x1p-70, 0x1p-70, 0x1p-70),
	}
}

// badMaps are maps that are not valid.
func badMaps() []impl.Map { return append(wildMaps(), smallMaps()...) }

// goodMaps are valid.
func goodMaps() []impl.Map {
	return []impl.Map{
		same3, doubled, level5,
		// The determinant is only just great enough.
		diagonal(limit, 1, 1), diagonal(1, -limit, 1), diagonal(1, 1, limit), diagonal(1.0/1024, 1.0/1024, 1), diagonal(1.0/1024, -1, 1.0/1024),
		diagonal(impl.MaxSize, impl.MaxSize, impl.MaxSize), diagonal(-impl.MaxSize, 1, 1),
		{0, 1, 0, 0, 0, 1, 1, 0, 0}, {0, 0, 1, 0, 1, 0, 1, 0, 0}, {minusZero, 1, 0, 1, minusZero, 0, 0, 0, -1},
		{1, 2, 3, 4, 5, 6, 7, 8, 10}, {1, 1, tiniest, 1, -1, -tiniest, 0x1p-126, 0, 1},
		{1, 1, 0, 1, 1 + 8*limit, 0, 0, 0, 1},
	}
}

func TestValidMap(t *testing.T) {
	for _, m := range badMaps() {
		same(t, "ValidMap "+row(m), all(impl.ValidMap(m)), all(false))
	}
	for _, m := range goodMaps() {
		same(t, "ValidMap "+row(m), all(impl.ValidMap(m)), all(true))
	}
}

// Each function that takes a map returns ErrInvalid for those that are not valid, ahead of all other errors.
func TestMapsThatAreNotValid(t *testing.T) {
	var none []impl.Spot
	many := make([]impl.Spot, 101)
	for _, m := range badMaps() {
		args := row(m)
		same(t, "ApplyMap "+args, all(impl.ApplyMap(m, impl.Spot{1, 1})), all(impl.Spot{}, codeInvalid))
		same(t, "ApplyMany "+args, all(impl.ApplyMany(m, square[:])), all(none, codeInvalid))
		same(t, "ApplyMany none "+args, all(impl.ApplyMany(m, nil)), all(none, codeInvalid))
		same(t, "ApplyMany many "+args, all(impl.ApplyMany(m, many)), all(none, codeInvalid))
		same(t, "ComposeMaps first "+args, all(impl.ComposeMaps(m, same3)), all(impl.Map{}, codeInvalid))
		same(t, "ComposeMaps second "+args, all(impl.ComposeMaps(same3, m)), all(impl.Map{}, codeInvalid))
		same(t, "InvertMap "+args, all(impl.InvertMap(m)), all(impl.Map{}, codeInvalid))
		same(t, "StretchAt "+args, all(impl.StretchAt(m, impl.Spot{1, 1})), all(float32(0), codeInvalid))
		for _, n := range []int64{1, 0, 10} {
			same(t, "GridOf "+args, all(impl.GridOf(m, n)), all(none, codeInvalid))
		}
		for _, list := range [][2][]impl.Spot{{square[:], square[:]}, {square[:], nil}, {nil, nil}, {many, many}} {
			same(t, "WorstOff "+args, all(impl.WorstOff(m, list[0], list[1])), all(float32(0), int64(0), codeInvalid))
		}
		same(t, "MapText "+args, all(impl.MapText(m)), all(""))
	}
}

func TestSameMap(t *testing.T) {
	for _, m := range append(badMaps(), goodMaps()...) {
		same(t, "SameMap "+row(m), all(impl.SameMap(m, m)), all(true))
	}
	for i := range 9 {
		for _, m := range []impl.Map{same3, nine(0), nine(nan), nine(infinite)} {
			for _, a := range []float32{0, minusZero, 1, above(1), tiniest, nan, infinite, -infinite} {
				n := with9(m, i, a)
				equal := row(m[i]) == row(a)
				same(t, "SameMap "+row(m, n), all(impl.SameMap(m, n), impl.SameMap(n, m)), all(equal, equal))
			}
		}
	}
	other := nine(otherNaN)
	same(t, "SameMap of NaNs", all(impl.SameMap(nine(nan), other), impl.SameMap(other, nine(nan))), all(true, true))
	same(t, "SameMap of zeros", all(impl.SameMap(nine(0), nine(minusZero))), all(false))
}

func TestDetOf(t *testing.T) {
	for _, c := range []struct {
		m    impl.Map
		want float32
	}{
		{same3, 1}, {doubled, 4}, {level5, 5}, {nine(1), 0}, {diagonal(2, 3, 4), 24}, {diagonal(-2, 3, 4), -24},
		{diagonal(limit, 1, 1), limit}, {diagonal(below(limit), 1, 1), below(limit)}, {diagonal(1, -limit, 1), -limit},
		// Each of the six products, with its sign.
		{impl.Map{2, 0, 0, 0, 3, 0, 0, 0, 5}, 30}, {impl.Map{2, 0, 0, 0, 0, 3, 0, 5, 0}, -30}, {impl.Map{0, 2, 0, 3, 0, 0, 0, 0, 5}, -30},
		{impl.Map{0, 2, 0, 0, 0, 3, 5, 0, 0}, 30}, {impl.Map{0, 0, 2, 3, 0, 0, 0, 5, 0}, 30}, {impl.Map{0, 0, 2, 0, 3, 0, 5, 0, 0}, -30},
		{impl.Map{1, 2, 3, 4, 5, 6, 7, 8, 10}, -3},
		// Numbers that are not plain.
		{diagonal(10000000, 10000000, 10), 1e15}, {diagonal(infinite, 1, 1), infinite}, {nine(nan), nan}, {nine(infinite), nan}, {nine(greatest), nan},
		{diagonal(greatest, 2, 1), infinite}, {diagonal(greatest, -2, 1), -infinite}, {diagonal(greatest, 1, 1), greatest},
		{with9(same3, 0, nan), nan}, {with9(same3, 8, infinite), nan}, {with9(nine(1), 0, infinite), nan},
		{diagonal(tiniest, 1, 1), tiniest}, {diagonal(tiniest, tiniest, 1), 0},
		// Zeros have signs.
		{nine(0), 0}, {nine(minusZero), 0}, {diagonal(minusZero, 1, 1), 0},
		{impl.Map{minusZero, 0, 0, 1, 1, 1, 1, 1, 1}, 0},
		{impl.Map{-1, 1, -1, 1, 1, 1, 1, 1, 1}, minusZero},
	} {
		same(t, "DetOf "+row(c.m), all(impl.DetOf(c.m)), all(c.want))
		same(t, "DetOf "+row(c.m)+" again", all(wantDet(c.m)), all(c.want))
	}
	// The first two are subtracted first: otherwise the number 1 would be lost, or not.
	const much = 16777216
	for _, m := range []impl.Map{{much, much, 1, -1, 1, 1, 0, 1, 1}, {1, 1, much, 1, 0, -1, 1, 1, 1}, {much, 1, -much, 1, 1, 0, 0, 1, 1}} {
		same(t, "DetOf "+row(m), all(impl.DetOf(m)), all(wantDet(m)))
	}
}

func TestScaledMap(t *testing.T) {
	for _, c := range []struct {
		m, want impl.Map
	}{
		{doubled, diagonal(1, 1, 0.5)},
		{same3, same3},
		// The number with the greatest size is negative: it takes its sign with it, also of zeros.
		{diagonal(1, 2, -4), impl.Map{-0.25, minusZero, minusZero, minusZero, -0.5, minusZero, minusZero, minusZero, 1}},
		{impl.Map{-8, 4, minusZero, 0, 2, 1, 0, 0, 1}, impl.Map{1, -0.5, 0, minusZero, -0.25, -0.125, minusZero, minusZero, -0.125}},
		// It is there several times: the first one counts, whatever its sign is.
		{diagonal(-2, 2, 2), impl.Map{1, minusZero, minusZero, minusZero, -1, minusZero, minusZero, minusZero, -1}},
		{diagonal(2, -2, 2), impl.Map{1, 0, 0, 0, -1, 0, 0, 0, 1}},
		{impl.Map{1, 0, 0, 0, 1, -3, 3, 0, 1}, impl.Map{-1.0 / 3.0, minusZero, minusZero, minusZero, -1.0 / 3.0, 1, -1, minusZero, -1.0 / 3.0}},
		{impl.Map{1, 0, 0, 0, 1, 3, -3, 0, 1}, impl.Map{1.0 / 3.0, 0, 0, 0, 1.0 / 3.0, 1, -1, 0, 1.0 / 3.0}},
		// It is not the last one.
		{impl.Map{0, 4, 0, 2, 0, 0, 0, 0, 1}, impl.Map{0, 1, 0, 0.5, 0, 0, 0, 0, 0.25}},
		{impl.Map{1, 0, 0, 0, 1, 0, 0, 4, 1}, impl.Map{0.25, 0, 0, 0, 0.25, 0, 0, 1, 0.25}},
		// It may be just as great as a plain number may be, and maps that are not valid may become so.
		{diagonal(impl.MaxSize, -impl.MaxSize, impl.MaxSize/2), diagonal(1, -1, 0.5)},
		{diagonal(1.0/1024, 1.0/1024, 1.0/1024), same3},
		{diagonal(limit, limit, limit), same3}, {diagonal(tiniest, tiniest, tiniest), same3}, {diagonal(1, 1, limit), diagonal(1, 1, limit)},
		{diagonal(1024, 1, 1), diagonal(1, 1.0/1024, 1.0/1024)},
	} {
		same(t, "ScaledMap "+row(c.m), all(impl.ScaledMap(c.m)), all(c.want, codeOK))
	}
	for _, m := range wildMaps() {
		same(t, "ScaledMap "+row(m), all(impl.ScaledMap(m)), all(impl.Map{}, codeInvalid))
	}
	for _, m := range []impl.Map{
		{}, nine(minusZero), nine(1), nine(-impl.MaxSize), diagonal(1, 1, 0), {1, 2, 3, 2, 4, 6, 0, 0, 1}, diagonal(1, 1, below(limit)),
		// They are valid before they are scaled.
		diagonal(1025, 1, 1), diagonal(impl.MaxSize, 1, 1), diagonal(impl.MaxSize, limit, 1), {1, 0, impl.MaxSize, 0, 1, 0, 0, 0, 1},
	} {
		same(t, "ScaledMap "+row(m), all(impl.ScaledMap(m)), all(impl.Map{}, codeState))
	}
}

func TestApplyMap(t *testing.T) {
	for _, c := range []struct {
		m       impl.Map
		s, want impl.Spot
	}{
		{same3, impl.Spot{3, -4}, impl.Spot{3, -4}},
		{doubled, impl.Spot{3, -4}, impl.Spot{6, -8}},
		{impl.Map{1, 0, 2, 0, 1, 0, 0, 0, 2}, impl.Spot{4, 6}, impl.Spot{3, 3}},
		{impl.Map{1, 2, 3, 4, 5, 6, 7, 8, 10}, impl.Spot{1, 1}, impl.Spot{6.0 / 25.0, 15.0 / 25.0}},
		{impl.Map{1, 2, 3, 4, 5, 6, 7, 8, 10}, impl.Spot{2, -1}, impl.Spot{3.0 / 16.0, 9.0 / 16.0}},
		{impl.Map{0, 1, 0, 0, 0, 1, 1, 0, 0}, impl.Spot{2, 6}, impl.Spot{3, 0.5}},
		// w may be less than 0, and only just great enough.
		{level5, impl.Spot{2, 6}, impl.Spot{-2, -6}},
		{diagonal(1, 1, limit), impl.Spot{1, -2}, impl.Spot{1048576, -2097152}},
		{diagonal(1, 1, -limit), impl.Spot{1, -2}, impl.Spot{-1048576, 2097152}},
		{impl.Map{0, 1, 0, 0, 0, 1, 1, 0, 0}, impl.Spot{limit, 2}, impl.Spot{2097152, 1048576}},
		// What a spot goes to need not be plain.
		{diagonal(impl.MaxSize, impl.MaxSize, limit), impl.Spot{impl.MaxSize, -impl.MaxSize}, impl.Spot{1048576 * 1e12, -1048576 * 1e12}},
	} {
		got, code := impl.ApplyMap(c.m, c.s)
		if got != c.want || code != impl.OK {
			t.Errorf("ApplyMap %s: got %s, want %s", row(c.m, c.s), row(got, code), row(c.want))
		}
	}
	// The zeros have signs.
	same(t, "ApplyMap -0", all(impl.ApplyMap(same3, impl.Spot{minusZero, minusZero})), all(impl.Spot{0, 0}, codeOK))
	same(t, "ApplyMap to -0", all(impl.ApplyMap(diagonal(1, 1, -1), impl.Spot{0, 1})), all(impl.Spot{minusZero, -1}, codeOK))
	// The products are added from left to right: the last number is lost, or not.
	m := impl.Map{impl.MaxSize, impl.MaxSize, 0.03, impl.MaxSize, -impl.MaxSize, 0.03, 0, 0, 1}
	same(t, "ApplyMap "+row(m), all(impl.ApplyMap(m, impl.Spot{1, -1})), all(impl.Spot{0.03, 2000000}, codeOK))
	same(t, "ApplyMap "+row(m), all(impl.ApplyMap(m, impl.Spot{1, 1})), all(impl.Spot{2000000, 0.03}, codeOK))
	m = impl.Map{1, 0, 0, 0, 1, 0, impl.MaxSize, impl.MaxSize, 0.25}
	same(t, "ApplyMap "+row(m), all(impl.ApplyMap(m, impl.Spot{1, -1})), all(impl.Spot{4, -4}, codeOK))
}

func TestSpotsThatAreNotSent(t *testing.T) {
	// The last row of both has just one number: w is x, or y.
	byX, byY := impl.Map{0, 1, 0, 0, 0, 1, 1, 0, 0}, impl.Map{1, 0, 0, 0, 0, 1, 0, 1, 0}
	for _, c := range []struct {
		m impl.Map
		s impl.Spot
	}{
		{level5, impl.Spot{1, 5}}, {level5, impl.Spot{-impl.MaxSize, 5}}, {level5, impl.Spot{1, above(5)}}, {level5, impl.Spot{1, below(5)}},
		{byX, impl.Spot{0, 1}}, {byX, impl.Spot{minusZero, 1}}, {byX, impl.Spot{tiniest, 1}},
		{byX, impl.Spot{below(limit), 1}}, {byX, impl.Spot{above(-limit), 1}},
		{byY, impl.Spot{1, 0}}, {byY, impl.Spot{1, below(limit)}}, {byY, impl.Spot{1, above(-limit)}},
		{impl.Map{1, 0, 0, 0, 1, 0, 1, 1, 1}, impl.Spot{-2, 1}},
	} {
		same(t, "ApplyMap "+row(c.m, c.s), all(impl.ApplyMap(c.m, c.s)), all(impl.Spot{}, codeState))
		same(t, "StretchAt "+row(c.m, c.s), all(impl.StretchAt(c.m, c.s)), all(float32(0), codeState))
		same(t, "ApplyMany "+row(c.m, c.s), all(impl.ApplyMany(c.m, []impl.Spot{{1, 1}, c.s, {2, 2}})), all([]impl.Spot{}, codeState))
	}
	for _, s := range badSpots {
		same(t, "ApplyMap "+row(s), all(impl.ApplyMap(same3, s)), all(impl.Spot{}, codeInvalid))
		same(t, "StretchAt "+row(s), all(impl.StretchAt(same3, s)), all(float32(0), codeInvalid))
	}
	// Also where w would be small.
	for _, a := range wildNumbers {
		same(t, "ApplyMap "+row(a), all(impl.ApplyMap(level5, impl.Spot{a, 5})), all(impl.Spot{}, codeInvalid))
		same(t, "StretchAt "+row(a), all(impl.StretchAt(level5, impl.Spot{a, 5})), all(float32(0), codeInvalid))
	}
}

func TestApplyMany(t *testing.T) {
	list := []impl.Spot{{1, 2}, {0, 0}, {1, 2}, {-3, impl.MaxSize}}
	same(t, "ApplyMany", all(impl.ApplyMany(doubled, list)), all([]impl.Spot{{2, 4}, {0, 0}, {2, 4}, {-6, 2 * impl.MaxSize}}, codeOK))
	same(t, "ApplyMany of none", all(impl.ApplyMany(doubled, []impl.Spot{})), all([]impl.Spot{}, codeOK))
	same(t, "ApplyMany of nil", all(impl.ApplyMany(doubled, nil)), all([]impl.Spot{}, codeOK))
	for _, n := range []int{99, 100, 101, 102, 1000} {
		many := make([]impl.Spot, n)
		var want []impl.Spot
		for i := range many {
			many[i] = impl.Spot{float32(i), float32(-i)}
			want = append(want, impl.Spot{float32(2 * i), float32(-2 * i)})
		}
		code := codeOK
		if n > 100 {
			want, code = nil, codeLimit
		}
		same(t, "ApplyMany", all(impl.ApplyMany(doubled, many)), all(want, code))
		// A spot whose w is small is behind the limit, and one that is not plain ahead of it.
		many[n-1] = impl.Spot{1, 5}
		code = codeState
		if n > 100 {
			code = codeLimit
		}
		same(t, "ApplyMany", all(impl.ApplyMany(level5, many)), all([]impl.Spot{}, code))
		for _, s := range badSpots {
			many[n/2] = s
			same(t, "ApplyMany "+row(s), all(impl.ApplyMany(level5, many)), all([]impl.Spot{}, codeInvalid))
		}
	}
	for i := range 3 {
		three := []impl.Spot{{1, 1}, {2, 2}, {3, 3}}
		three[i] = impl.Spot{7, 5}
		same(t, "ApplyMany "+row(three), all(impl.ApplyMany(level5, three)), all([]impl.Spot{}, codeState))
	}
}

func TestComposeMaps(t *testing.T) {
	shifted := impl.Map{1, 0, 3, 0, 1, 5, 0, 0, 1}
	for _, c := range []struct {
		m, n, want impl.Map
	}{
		{same3, same3, same3},
		// The second one is done first.
		{doubled, shifted, impl.Map{0.2, 0, 0.6, 0, 0.2, 1, 0, 0, 0.1}},
		{shifted, doubled, impl.Map{0.4, 0, 0.6, 0, 0.4, 1, 0, 0, 0.2}},
		// The numbers 1 to 9, but for the last one, and a cycle of the rows, or of the columns; 10 is the greatest.
		{impl.Map{1, 2, 3, 4, 5, 6, 7, 8, 10}, impl.Map{0, 1, 0, 0, 0, 1, 1, 0, 0}, impl.Map{0.3, 0.1, 0.2, 0.6, 0.4, 0.5, 1, 0.7, 0.8}},
		{impl.Map{0, 1, 0, 0, 0, 1, 1, 0, 0}, impl.Map{1, 2, 3, 4, 5, 6, 7, 8, 10}, impl.Map{0.4, 0.5, 0.6, 0.7, 0.8, 1, 0.1, 0.2, 0.3}},
		// The greatest number is negative, or not the last one.
		{diagonal(-4, 1, 1), diagonal(1, 2, 2), diagonal(1, -0.5, -0.5)},
		{diagonal(1000, 1000, 1000), diagonal(1000, -500, 1000), diagonal(1, -0.5, 1)},
		// The greatest product is just plain.
		{diagonal(impl.MaxSize, impl.MaxSize, 500000), same3, diagonal(1, 1, 0.5)},
		// The determinant of what is made is small, but that of the scaled map is not.
		{diagonal(0.02, 0.02, 0.02), diagonal(0.02, 0.02, 0.02), same3},
	} {
		got, code := impl.ComposeMaps(c.m, c.n)
		if got != c.want || code != impl.OK {
			t.Errorf("ComposeMaps %s: got %s, want %s", row(c.m, c.n), row(got, code), row(c.want))
		}
		same(t, "ComposeMaps "+row(c.m, c.n), all(got, code), two(wantComposed(c.m, c.n)))
	}
	for _, c := range [][2]impl.Map{
		// A number before it is not plain.
		{diagonal(impl.MaxSize, impl.MaxSize, impl.MaxSize), diagonal(above(1), 1, 1)},
		{diagonal(2000, 2000, 2000), diagonal(2000, 2000, 2000)},
		{{1, 0, impl.MaxSize, 0, 1, 0, 0, 0, 1}, {1, 0, impl.MaxSize, 0, 1, 0, 0, 0, 1}},
		// What is scaled is not valid.
		{diagonal(100, 1, 1), diagonal(100, 1, 1)}, {diagonal(1, 1, 1.0/1024), diagonal(1, 1, 1.0/2048)},
		{{1, 0, 1000, 0, 1, 0, 0, 0, 1}, {1, 0, 100000, 0, 1, 0, 0, 0, 1}},
	} {
		same(t, "ComposeMaps "+row(c[0], c[1]), all(impl.ComposeMaps(c[0], c[1])), all(impl.Map{}, codeState))
	}
}

func TestInvertMap(t *testing.T) {
	for _, c := range []struct {
		m, want impl.Map
	}{
		{same3, same3},
		{doubled, diagonal(0.5, 0.5, 1)},
		{diagonal(1, 2, -4), diagonal(1, 0.5, -0.25)},
		{impl.Map{1, 0, 3, 0, 1, 4, 0, 0, 1}, impl.Map{-0.25, 0, 0.75, 0, -0.25, 1, 0, 0, -0.25}},
		{impl.Map{0, 1, 0, 0, 0, 1, 1, 0, 0}, impl.Map{0, 0, 1, 1, 0, 0, 0, 1, 0}},
		// Each of the nine numbers is another one: 2, 4, -3, 2, -11, 6, -3, 6, -3.
		{impl.Map{1, 2, 3, 4, 5, 6, 7, 8, 10}, impl.Map{
			quotient(2, -11), quotient(4, -11), quotient(-3, -11),
			quotient(2, -11), 1, quotient(6, -11),
			quotient(-3, -11), quotient(6, -11), quotient(-3, -11),
		}},
		// The numbers before it is scaled are just plain, or small.
		{diagonal(1000, 1000, 1000), same3},
		{diagonal(0.01, 0.01, 0.01), same3},
		// The determinant of what is scaled is only just great enough.
		{diagonal(1, 1, 1.0/1024), diagonal(1.0/1024, 1.0/1024, 1)}, {diagonal(1000, 1, 1), diagonal(0.001, 1, 1)},
	} {
		got, code := impl.InvertMap(c.m)
		if got != c.want || code != impl.OK {
			t.Errorf("InvertMap %s: got %s, want %s", row(c.m), row(got, code), row(c.want))
		}
		same(t, "InvertMap "+row(c.m), all(got, code), two(wantInverted(c.m)))
	}
	for _, m := range []impl.Map{
		// A number before it is not plain.
		diagonal(1001, 1001, 1001), diagonal(impl.MaxSize, impl.MaxSize, impl.MaxSize), diagonal(impl.MaxSize, 2, 1),
		{1, 0, 2000, 0, 1, 2000, 2000, 0, 1},
		// What is scaled is not valid.
		diagonal(1, 1, limit), diagonal(limit, 1, 1), diagonal(1, 1, below(1.0/1024)), {1, 0, impl.MaxSize, 0, 1, 0, 0, 0, 1},
	} {
		same(t, "InvertMap "+row(m), all(impl.InvertMap(m)), all(impl.Map{}, codeState))
	}
}
