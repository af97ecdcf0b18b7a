package tests

import (
	"testing"

	"loop.example/g01249/impl"
)

func TestLineThrough(t *testing.T) {
	const most = impl.MaxSize
	for _, c := range []struct {
		a, b impl.Spot
		want impl.Point
	}{
		{impl.Spot{0, 0}, impl.Spot{1, 1}, impl.Point{-1, 1, 0}}, {impl.Spot{0, 1}, impl.Spot{1, 0}, impl.Point{1, 1, -1}},
		{impl.Spot{1, 1}, impl.Spot{0, 0}, impl.Point{1, -1, 0}}, {impl.Spot{2, 3}, impl.Spot{5, 7}, impl.Point{-4, 3, -1}},
		{impl.Spot{0, 2}, impl.Spot{5, 2}, impl.Point{0, 5, -10}}, {impl.Spot{2, 0}, impl.Spot{2, 5}, impl.Point{-5, 0, 10}},
		// One of the first two numbers may be small, or both only just not.
		{impl.Spot{0, 0}, impl.Spot{limit, 0}, impl.Point{0, limit, 0}}, {impl.Spot{0, 0}, impl.Spot{0, limit}, impl.Point{-limit, 0, 0}},
		{impl.Spot{0, 0}, impl.Spot{below(limit), -limit}, impl.Point{limit, below(limit), 0}}, {impl.Spot{limit, limit}, impl.Spot{0, 0}, impl.Point{limit, -limit, 0}},
		// The numbers need not be plain.
		{impl.Spot{most, most}, impl.Spot{-most, most}, impl.Point{0, -2 * most, 2 * most * most}}, {impl.Spot{most, 0}, impl.Spot{0, -most}, impl.Point{most, -most, -most * most}},
		// The zeros have signs.
		{impl.Spot{0, minusZero}, impl.Spot{1, 0}, impl.Point{minusZero, 1, 0}}, {impl.Spot{0, 0}, impl.Spot{1, minusZero}, impl.Point{0, 1, minusZero}},
		{impl.Spot{minusZero, 0}, impl.Spot{minusZero, 1}, impl.Point{-1, 0, 0}}, {impl.Spot{0, 0}, impl.Spot{minusZero, 1}, impl.Point{-1, minusZero, 0}},
	} {
		same(t, "LineThrough "+row(c.a, c.b), all(impl.LineThrough(c.a, c.b)), two(wantLineThrough(c.a, c.b)))
		if got, code := impl.LineThrough(c.a, c.b); got != c.want || code != impl.OK {
			t.Errorf("LineThrough %s: got %s, want %s", row(c.a, c.b), row(got, code), row(c.want))
		}
	}
	for _, c := range [][2]impl.Spot{
		{{1, 1}, {1, 1}}, {}, {{0, 0}, {minusZero, minusZero}}, {{most, most}, {most, most}},
		{{0, 0}, {below(limit), 0}}, {{0, 0}, {0, above(-limit)}}, {{0, 0}, {below(limit), below(limit)}}, {{1, 1}, {above(1), below(1)}}, {{0, tiniest}, {0, -tiniest}},
	} {
		same(t, "LineThrough "+row(c[0], c[1]), all(impl.LineThrough(c[0], c[1])), all(impl.Point{}, codeState))
	}
	for _, s := range badSpots {
		for _, other := range append(badSpots, impl.Spot{1, 2}, s) {
			same(t, "LineThrough "+row(s, other), all(impl.LineThrough(s, other)), all(impl.Point{}, codeInvalid))
			same(t, "LineThrough "+row(other, s), all(impl.LineThrough(other, s)), all(impl.Point{}, codeInvalid))
		}
	}
}

func TestMeetSpots(t *testing.T) {
	const most = impl.MaxSize
	for _, c := range []struct {
		l, m impl.Point
		want impl.Spot
	}{
		{impl.Point{-1, 1, 0}, impl.Point{1, 1, -1}, impl.Spot{0.5, 0.5}}, {impl.Point{1, 1, -1}, impl.Point{-1, 1, 0}, impl.Spot{0.5, 0.5}},
		{impl.Point{1, 0, -3}, impl.Point{0, 1, -4}, impl.Spot{3, 4}}, {impl.Point{0, 2, -4}, impl.Point{4, 0, 6}, impl.Spot{-1.5, 2}},
		{impl.Point{1, 2, -5}, impl.Point{3, -1, -1}, impl.Spot{1, 2}},
		// w is only just not small, and the spot need not be plain.
		{impl.Point{1, 0, 0}, impl.Point{0, limit, 1}, impl.Spot{0, -1048576}}, {impl.Point{1, 0, 0}, impl.Point{5, -limit, 1}, impl.Spot{0, 1048576}},
		{impl.Point{1, 0, most}, impl.Point{0, limit, most}, impl.Spot{-most, -most * 1048576}}, {impl.Point{most, 0, 1}, impl.Point{0, most, 1}, impl.Spot{-0.000001, -0.000001}},
	} {
		same(t, "MeetSpots "+row(c.l, c.m), all(impl.MeetSpots(c.l, c.m)), two(wantMeetSpots(c.l, c.m)))
		if got, code := impl.MeetSpots(c.l, c.m); got != c.want || code != impl.OK {
			t.Errorf("MeetSpots %s: got %s, want %s", row(c.l, c.m), row(got, code), row(c.want))
		}
	}
	for _, c := range [][2]impl.Point{
		// They are the same, or along each other, or no lines.
		{{1, 2, 3}, {1, 2, 3}}, {{1, 2, 3}, {2, 4, 6}}, {{1, 2, 3}, {-1, -2, -3}}, {{1, 2, 3}, {1, 2, 4}}, {{1, 2, 3}, {-2, -4, 1}}, {{0, 1, 0}, {0, 1, 5}},
		{}, {{1, 2, 3}, {}}, {{0, 0, 1}, {1, 2, 3}}, {{0, 0, 1}, {0, 0, 2}}, {{most, most, 0}, {most, most, 1}},
		// w is small.
		{{1, 0, 0}, {0, below(limit), 1}}, {{1, 0, 0}, {5, above(-limit), 1}}, {{1, 1, 0}, {1, above(1), 1}}, {{tiniest, 0, 0}, {0, 1, 0}},
	} {
		same(t, "MeetSpots "+row(c[0], c[1]), all(impl.MeetSpots(c[0], c[1])), all(impl.Spot{}, codeState))
	}
	for _, a := range wildNumbers {
		for i := range 3 {
			l := impl.Point{1, 2, 3}
			l[i] = a
			same(t, "MeetSpots "+row(l), all(impl.MeetSpots(l, impl.Point{1, -1, 0})), all(impl.Spot{}, codeInvalid))
			same(t, "MeetSpots "+row(l), all(impl.MeetSpots(impl.Point{1, -1, 0}, l)), all(impl.Spot{}, codeInvalid))
			same(t, "MeetSpots "+row(l), all(impl.MeetSpots(l, impl.Point{})), all(impl.Spot{}, codeInvalid))
			same(t, "MeetSpots "+row(l), all(impl.MeetSpots(l, l)), all(impl.Spot{}, codeInvalid))
		}
	}
}

// along makes spots of a line with the way x, y, at some places.
func along(x, y float32, places ...float32) []impl.Spot {
	var list []impl.Spot
	for _, at := range places {
		list = append(list, impl.Spot{at * x, at * y})
	}
	return list
}

func TestCrossRatio(t *testing.T) {
	for _, c := range []struct {
		list []impl.Spot
		want float32
	}{
		{along(1, 0, 0, 1, 2, 3), 4.0 / 3.0}, {along(0, 1, 0, 1, 2, 3), 4.0 / 3.0}, {along(-2, 0, 0, 1, 2, 3), 4.0 / 3.0}, {along(2, -1, 3, 2, 1, 0), 4.0 / 3.0},
		{along(1, 0, 0, 1, 4, 2), 2.0 / 3.0}, {along(1, 0, 0, 2, 4, 1), -2}, {along(1, 0, 1, 3, 2, 9), -0.75},
		// Some of them are the same.
		{along(1, 0, 1, 1, 2, 3), 1}, {along(1, 0, 0, 1, 2, 2), 1}, {along(1, 0, 0, 1, 0, 2), 0}, {along(1, 0, 0, 2, 1, 2), 0},
		// The first coordinate counts, as the last one is farther away in it; in the other one they would have another ratio.
		{[]impl.Spot{{0, 0}, {1, 5}, {2, 7}, {3, 2}}, 4.0 / 3.0}, {[]impl.Spot{{0, 0}, {1, 5}, {2, 7}, {3, -2}}, 4.0 / 3.0}, {[]impl.Spot{{3, 0}, {2, 5}, {1, 7}, {0, 2}}, 4.0 / 3.0},
		// The second one does, also if it goes down.
		{[]impl.Spot{{0, 0}, {5, 1}, {7, 2}, {2, 3}}, 4.0 / 3.0}, {[]impl.Spot{{0, 0}, {5, 1}, {7, 2}, {-2, 3}}, 4.0 / 3.0}, {[]impl.Spot{{0, 0}, {5, -1}, {7, -2}, {2, -3}}, 4.0 / 3.0},
		// Both are the same: the first one does.
		{[]impl.Spot{{0, 0}, {1, 5}, {2, 7}, {3, 3}}, 4.0 / 3.0}, {[]impl.Spot{{0, 0}, {1, 5}, {2, 7}, {3, -3}}, 4.0 / 3.0}, {[]impl.Spot{{0, 0}, {-1, 5}, {-2, 7}, {-3, 3}}, 4.0 / 3.0},
		{[]impl.Spot{{0, 0}, {1, 5}, {2, 7}, {3, above(3)}}, quotient(product(7, above(3)-5), product(2, above(3)))},
		{[]impl.Spot{{0, 0}, {1, 5}, {2, 7}, {above(3), 3}}, quotient(product(2, above(3)-1), above(3))},
		// What is divided by is only just not small.
		{along(1, 0, 0, 1-1.0/1024, 1, 1.0/1024), -(1 - 2.0/1024) * 1024 * 1024}, {[]impl.Spot{{0, 0}, {0, 0}, {limit, 0}, {1, 0}}, 1},
	} {
		a, b, e, d := c.list[0], c.list[1], c.list[2], c.list[3]
		got, code := impl.CrossRatio(a, b, e, d)
		same(t, "CrossRatio "+row(c.list), all(got, code), two(wantCrossRatio(a, b, e, d)))
		if got != c.want || code != impl.OK {
			t.Errorf("CrossRatio %s: got %s, want %v", row(c.list), row(got, code), c.want)
		}
	}
	for _, list := range [][]impl.Spot{
		make([]impl.Spot, 4), along(1, 2, 0, 1, 1, 3), along(1, 2, 0, 1, 2, 0), along(1, 2, 1, 1, 1, 1), along(0, 0, 0, 1, 2, 3),
		// What is divided by is small, in this coordinate.
		{{0, 0}, {1, 5}, {1, 7}, {3, 2}}, {{0, 0}, {1, 5}, {1, 7}, {3, 3}}, {{0, 0}, {5, 1}, {7, 1}, {2, 3}},
		{{0, 0}, {0, 0}, {below(limit), 0}, {1, 0}}, {{0, 0}, {below(limit), 0}, {0, 0}, {1, 0}}, {{0, 0}, {0, 0}, {1, 0}, {below(limit), 0}},
	} {
		same(t, "CrossRatio "+row(list), all(impl.CrossRatio(list[0], list[1], list[2], list[3])), all(float32(0), codeState))
	}
	for i := range 4 {
		for _, s := range badSpots {
			for _, list := range [][]impl.Spot{along(1, 0, 0, 1, 2, 3), make([]impl.Spot, 4)} {
				list[i] = s
				same(t, "CrossRatio "+row(list), all(impl.CrossRatio(list[0], list[1], list[2], list[3])), all(float32(0), codeInvalid))
			}
		}
	}
}

func TestMeasureFrom(t *testing.T) {
	const most = impl.MaxSize
	for _, c := range []struct {
		list        []impl.Spot // a, b, far and p
		known, want float32
	}{
		{along(1, 0, 0, 1, 4, 2), 1, 3}, {along(0, 1, 0, 1, 4, 2), 1, 3}, {along(-1, 0, 0, 1, 4, 2), 1, 3}, {along(1, -2, 0, 1, 4, 2), 1, 3}, {along(2, 1, 0, 1, 4, 2), 2, 6},
		{along(1, 0, 0, 1, 4, 1), 5, 5}, {along(1, 0, 0, 1, 4, 0), 5, 0}, {along(1, 0, 0, 1, 4, 3), 1, 9}, {along(1, 0, 0, 1, 4, 5), 1, -15}, {along(1, 0, 0, 1, 4, -1), 1, -0.6},
		{along(1, 0, 0, 1, 4, 2), 0, 0}, {along(1, 0, 0, 1, 4, 2), -1, -3}, {along(1, 0, 0, 4, 4, 2), 1, 0},
		// The coordinate in which far, not p, is farther from a.
		{[]impl.Spot{{0, 0}, {1, 7}, {4, 3}, {2, 9}}, 1, 3}, {[]impl.Spot{{0, 0}, {1, 7}, {4, -3}, {2, 9}}, 1, 3}, {[]impl.Spot{{4, 0}, {3, 7}, {0, 3}, {2, 9}}, 1, 3},
		{[]impl.Spot{{0, 0}, {7, 1}, {3, 4}, {9, 2}}, 1, 3}, {[]impl.Spot{{0, 0}, {7, -1}, {3, -4}, {9, -2}}, 1, 3},
		// Both are the same: the first one.
		{[]impl.Spot{{0, 0}, {1, 7}, {4, 4}, {2, 9}}, 1, 3}, {[]impl.Spot{{0, 0}, {1, 7}, {4, -4}, {2, 9}}, 1, 3}, {[]impl.Spot{{0, 0}, {-1, 7}, {-4, 4}, {-2, 9}}, 1, 3},
		// What is divided by is only just not small; what is measured need not be plain.
		{[]impl.Spot{{0, 0}, {1, 0}, {0, 0}, {limit, 0}}, 1, 1}, {along(1, 0, 0, limit, 1, 0), 1, 0}, {along(1, 0, 0, limit, 2, 1), 1, 2097151},
		{along(1, 0, -most, -most+1, most, below(most)), most, quotient(product(most, product(below(most)+most, 2*most-1)), 0.0625)},
	} {
		a, b, far, p := c.list[0], c.list[1], c.list[2], c.list[3]
		got, code := impl.MeasureFrom(a, b, far, p, c.known)
		same(t, "MeasureFrom "+row(c.list, c.known), all(got, code), two(wantMeasureFrom(a, b, far, p, c.known)))
		if got != c.want || code != impl.OK {
			t.Errorf("MeasureFrom %s: got %s, want %v", row(c.list, c.known), row(got, code), c.want)
		}
	}
	for _, list := range [][]impl.Spot{
		// far is at p, or b is at a.
		along(1, 2, 0, 1, 4, 4), along(1, 2, 1, 1, 4, 2), along(1, 2, 0, 0, 0, 0), along(0, 0, 0, 1, 4, 2), make([]impl.Spot, 4), along(1, 2, 0, 1, 0, 0),
		// It is so in this coordinate.
		{{0, 0}, {1, 7}, {4, 3}, {4, 9}}, {{0, 0}, {1, 7}, {4, 4}, {4, 9}}, {{0, 0}, {0, 7}, {4, 4}, {2, 9}}, {{0, 0}, {7, 0}, {3, 4}, {9, 2}},
		{{0, 0}, {1, 0}, {0, 0}, {below(limit), 0}}, {{0, 0}, {below(limit), 0}, {1, 0}, {0, 0}}, {{0, 0}, {above(-limit), 0}, {1, 0}, {0, 0}},
	} {
		for _, known := range []float32{1, 0, -most} {
			same(t, "MeasureFrom "+row(list), all(impl.MeasureFrom(list[0], list[1], list[2], list[3], known)), all(float32(0), codeState))
		}
	}
	for _, good := range [][]impl.Spot{along(1, 0, 0, 1, 4, 2), make([]impl.Spot, 4)} {
		for _, known := range wildNumbers {
			same(t, "MeasureFrom "+row(known), all(impl.MeasureFrom(good[0], good[1], good[2], good[3], known)), all(float32(0), codeInvalid))
		}
		for i := range 4 {
			for _, s := range badSpots {
				var list [4]impl.Spot
				copy(list[:], good)
				list[i] = s
				same(t, "MeasureFrom "+row(list), all(impl.MeasureFrom(list[0], list[1], list[2], list[3], 1)), all(float32(0), codeInvalid))
			}
		}
	}
}

func TestStretchAt(t *testing.T) {
	const most = impl.MaxSize
	for _, c := range []struct {
		m    impl.Map
		s    impl.Spot
		want float32
	}{
		{same3, impl.Spot{7, -3}, 1}, {doubled, impl.Spot{5, 5}, 4}, {diagonal(2, -3, 1), impl.Spot{}, -6}, {diagonal(2, 2, 2), impl.Spot{1, 1}, 1},
		// w is 2, and then -1.
		{level5, impl.Spot{9, 3}, 5.0 / 8.0}, {level5, impl.Spot{9, 6}, -5}, {impl.Map{1, 2, 3, 4, 5, 6, 7, 8, 10}, impl.Spot{1, 1}, -3.0 / 15625.0},
		// w is only just not small.
		{diagonal(1, 1, limit), impl.Spot{1, 1}, 1048576 * 1048576}, {diagonal(1, 1, -limit), impl.Spot{1, 1}, 1048576 * 1048576},
		{impl.Map{0, 1, 0, 0, 0, 1, 1, 0, 0}, impl.Spot{limit, 0}, 1048576 * 1048576 * 1048576}, {impl.Map{0, 1, 0, 0, 0, 1, 1, 0, 0}, impl.Spot{-limit, 0}, -1048576 * 1048576 * 1048576},
		{impl.Map{0, 1, 0, 0, 0, 1, 1, 0, 0}, impl.Spot{most, 0}, 1e-18},
	} {
		got, code := impl.StretchAt(c.m, c.s)
		same(t, "StretchAt "+row(c.m, c.s), all(got, code), two(wantStretchAt(c.m, c.s)))
		if !near((got-c.want)/c.want, 0) || code != impl.OK {
			t.Errorf("StretchAt %s: got %s, want %v", row(c.m, c.s), row(got, code), c.want)
		}
	}
	// Each of both products is rounded.
	for w := float32(1.1); w < 3; w += 0.1 {
		m := diagonal(1, 1, w)
		same(t, "StretchAt "+row(m), all(impl.StretchAt(m, impl.Spot{})), all(quotient(w, product(product(w, w), w)), codeOK))
	}
}

func TestGridOf(t *testing.T) {
	same(t, "GridOf 1", all(impl.GridOf(doubled, 1)), all([]impl.Spot{{0, 0}, {0, 2}, {2, 0}, {2, 2}}, codeOK))
	same(t, "GridOf 2", all(impl.GridOf(same3, 2)),
		all([]impl.Spot{{0, 0}, {0, 0.5}, {0, 1}, {0.5, 0}, {0.5, 0.5}, {0.5, 1}, {1, 0}, {1, 0.5}, {1, 1}}, codeOK))
	for n := int64(1); n <= 9; n++ {
		var want []impl.Spot
		for i := range n + 1 {
			for k := range n + 1 {
				want = append(want, impl.Spot{quotient(float32(i), float32(n)), quotient(float32(k), float32(n))})
			}
		}
		same(t, "GridOf "+row(n), all(impl.GridOf(same3, n)), all(want, codeOK))
	}
	grid, code := impl.GridOf(level5, 9)
	same(t, "GridOf 9", all(int64(len(grid)), code), all(int64(100), codeOK))
	for _, n := range []int64{0, -1, 10, 11, 1 << 32, 1<<32 + 1, -1 << 63, 1<<63 - 1} {
		for _, m := range []impl.Map{same3, {1, 0, 0, 0, 0, 1, 0, 1, 0}} {
			same(t, "GridOf "+row(n), all(impl.GridOf(m, n)), all([]impl.Spot{}, codeRange))
		}
	}
	// w is y, or x, less a third: only some grids have a spot there.
	third := float32(1) / 3
	for n := int64(1); n <= 9; n++ {
		code := codeOK
		if n%3 == 0 {
			code = codeState
		}
		for _, m := range []impl.Map{{1, 0, 0, 0, 0, 1, 0, 1, -third}, {1, 0, 0, 0, 1, 0, 1, 0, -third}} {
			if grid, got := impl.GridOf(m, n); got != code || code != impl.OK && grid != nil {
				t.Errorf("GridOf %s: got %s", row(m, n), row(grid, got))
			}
		}
	}
	// The first spot, and the last one.
	same(t, "GridOf", all(impl.GridOf(impl.Map{1, 0, 0, 0, 0, 1, 1, 1, 0}, 4)), all([]impl.Spot{}, codeState))
	same(t, "GridOf", all(impl.GridOf(impl.Map{1, 0, 0, 0, 1, 0, 1, 1, -2}, 4)), all([]impl.Spot{}, codeState))
}

func TestWorstOff(t *testing.T) {
	list := func(spots ...impl.Spot) []impl.Spot { return spots }
	for _, c := range []struct {
		m        impl.Map
		from, to []impl.Spot
		worst    float32
		index    int64
	}{
		{same3, list(impl.Spot{1, 2}), list(impl.Spot{4, 6}), 5, 0}, {same3, list(impl.Spot{4, 6}), list(impl.Spot{1, 2}), 5, 0}, {same3, list(impl.Spot{1, 2}), list(impl.Spot{1, 2}), 0, 0},
		{doubled, square[:], list(impl.Spot{0, 0}, impl.Spot{2, 0}, impl.Spot{2, 2}, impl.Spot{0, 2}), 0, 0},
		{doubled, square[:], list(impl.Spot{0, 0}, impl.Spot{2, 0}, impl.Spot{2, 2}, impl.Spot{0, 3}), 1, 3},
		{doubled, square[:], list(impl.Spot{0, 0}, impl.Spot{2, 0.5}, impl.Spot{5, 6}, impl.Spot{0, 3}), 5, 2},
		// Several are equally far off: the first one counts.
		{same3, square[:], list(impl.Spot{0, 0}, impl.Spot{1, 1}, impl.Spot{1, 0}, impl.Spot{1, 1}), 1, 1},
		{same3, square[:], list(impl.Spot{0, 0}, impl.Spot{4, 4}, impl.Spot{-3, 4}, impl.Spot{0, -4}), 5, 1},
		{same3, square[:], list(impl.Spot{0.5, 0}, impl.Spot{1.5, 0}, impl.Spot{1, 0.5}, impl.Spot{0, 1.5}), 0.5, 0},
		{same3, square[:], list(impl.Spot{0, 0}, impl.Spot{1, tiniest}, impl.Spot{1, 1}, impl.Spot{0, 1}), 0, 0},
		// It need not be plain.
		{diagonal(1, 1, limit), list(impl.Spot{}, impl.Spot{impl.MaxSize, 0}), list(impl.Spot{}, impl.Spot{}), impl.MaxSize * 1048576, 1},
	} {
		worst, index, code := impl.WorstOff(c.m, c.from, c.to)
		same(t, "WorstOff "+row(c.m, c.from, c.to), all(worst, index, code), all(c.worst, c.index, codeOK))
	}
	var none []impl.Spot
	zero, nowhere := make([]impl.Spot, 102), make([]impl.Spot, 102)
	nowhere[0] = impl.Spot{1, 5}
	for _, c := range []struct {
		from, to []impl.Spot
		code     int64
	}{
		{none, none, codeRange}, {list(), none, codeRange}, {none, zero[:1], codeRange}, {zero[:1], none, codeRange}, {zero[:3], zero[:4], codeRange}, {zero[:4], zero[:3], codeRange},
		{zero[:100], zero[:100], codeOK}, {zero[:101], zero[:101], codeLimit}, {zero[:102], zero[:102], codeLimit}, {zero[:100], zero[:101], codeRange}, {zero[:101], zero[:102], codeRange}, {zero[:101], none, codeRange},
		// A spot whose w is small is behind all others.
		{nowhere[:4], zero[:4], codeState}, {nowhere[:100], zero[:100], codeState}, {nowhere[:101], zero[:101], codeLimit}, {nowhere[:4], zero[:3], codeRange}, {zero[:4], nowhere[:4], codeOK},
	} {
		worst, index, code := impl.WorstOff(level5, c.from, c.to)
		if code != c.code || code != impl.OK && (worst != 0 || index != 0) {
			t.Errorf("WorstOff of %d and %d: got %s, want %d", len(c.from), len(c.to), row(worst, index, code), c.code)
		}
		// A spot that is not plain is ahead of all.
		for _, s := range badSpots {
			bad := append([]impl.Spot{s}, c.from...)
			same(t, "WorstOff "+row(s), all(impl.WorstOff(level5, bad, c.to)), all(float32(0), int64(0), codeInvalid))
			bad = append(append([]impl.Spot{}, c.to...), s)
			same(t, "WorstOff to "+row(s), all(impl.WorstOff(level5, c.from, bad)), all(float32(0), int64(0), codeInvalid))
		}
	}
	// Any of them may be the one that is not sent, or that is the farthest off.
	for i := range 100 {
		from, to := make([]impl.Spot, 100), make([]impl.Spot, 100)
		to[i] = impl.Spot{0.25, 0}
		same(t, "WorstOff "+row(int64(i)), all(impl.WorstOff(level5, from, to)), all(float32(0.25), int64(i), codeOK))
		from[i] = impl.Spot{3, 5}
		same(t, "WorstOff "+row(int64(i)), all(impl.WorstOff(level5, from, to)), all(float32(0), int64(0), codeState))
	}
}
