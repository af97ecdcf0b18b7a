package tests

import (
	"slices"
	"testing"

	"loop.example/g01249/impl"
)

func TestClipAhead(t *testing.T) {
	near, far, back := impl.Point{5, 0.5, 1}, impl.Point{0, 3, 1}, impl.Point{0, -1, 1}
	just, less := impl.Point{0, 0.5, 1}, impl.Point{3, below(0.5), 1}
	const most = impl.MaxSize
	cases := []struct {
		a, b         impl.Point
		first, other impl.Point
		seen         bool
	}{
		// Both ends are deep enough, one of them, the other one, or none.
		{far, impl.Point{2, 7, 5}, far, impl.Point{2, 7, 5}, true},
		{far, back, far, just, true},
		{back, far, just, far, true},
		{back, impl.Point{1, 0.25, 7}, impl.Point{}, impl.Point{}, false},
		{back, back, impl.Point{}, impl.Point{}, false},
		// What is just as deep as Near stays, and what is a little less deep does not.
		{near, near, near, near, true},
		{near, far, near, far, true},
		{far, near, far, near, true},
		{near, back, near, near, true},
		{back, near, near, near, true},
		{less, less, impl.Point{}, impl.Point{}, false},
		{less, back, impl.Point{}, impl.Point{}, false},
		{near, less, near, near, true},
		// Zeros that are not replaced keep their signs.
		{impl.Point{minusZero, 1, minusZero}, impl.Point{0, 2, minusZero}, impl.Point{minusZero, 1, minusZero}, impl.Point{0, 2, minusZero}, true},
		// The share of an end that is just as deep as Near is -0, if the other end is less deep.
		{impl.Point{minusZero, 0.5, minusZero}, impl.Point{1, -1, -1}, impl.Point{minusZero, 0.5, minusZero}, impl.Point{minusZero, 0.5, 0}, true},
		{impl.Point{0, -most, 0}, impl.Point{0, most, 0}, impl.Point{0, 0.5, 0}, impl.Point{0, most, 0}, true},
	}
	for _, c := range cases {
		same(t, "ClipAhead "+row(c.a, c.b), all(impl.ClipAhead(straight, c.a, c.b)), all(c.first, c.other, c.seen, codeOK))
	}
}

func TestBothEndsAreReplacedAlike(t *testing.T) {
	// The share is told from a to b, whichever end is replaced, and not back from the one that is.
	m := newMaker()
	different := 0
	for range rounds {
		c, a, b := m.ordinaryCamera(), m.pointWithin(10), m.pointWithin(10)
		from, to := wantDepth(c, a), wantDepth(c, b)
		if from < c.Near || to >= c.Near {
			continue
		}
		on := wantBetween(a, b, quotient(difference(c.Near, from), difference(to, from)))
		same(t, "ClipAhead "+row(c, a, b), all(impl.ClipAhead(c, a, b)), all(a, on, true, codeOK))
		if !impl.SamePoint(on, wantBetween(b, a, quotient(difference(c.Near, to), difference(from, to)))) {
			different++
		}
	}
	if different < 100 {
		t.Errorf("only %d lines tell both ways apart", different)
	}
}

func TestProjectLine(t *testing.T) {
	far, back := impl.Point{2, 4, 1}, impl.Point{2, -3, 1}
	cases := []struct {
		a, b         impl.Point
		first, other impl.Spot
		seen         bool
	}{
		{far, impl.Point{3, 2, -1}, impl.Spot{1, 0.5}, impl.Spot{3, -1}, true},
		{far, back, impl.Spot{1, 0.5}, impl.Spot{8, 4}, true},
		{back, far, impl.Spot{8, 4}, impl.Spot{1, 0.5}, true},
		{impl.Point{1, 0.5, 3}, back, impl.Spot{4, 12}, impl.Spot{4, 12}, true},
		{back, impl.Point{1, below(0.5), 3}, impl.Spot{}, impl.Spot{}, false},
	}
	for _, c := range cases {
		same(t, "ProjectLine "+row(c.a, c.b), all(impl.ProjectLine(straight, c.a, c.b)), all(c.first, c.other, c.seen, codeOK))
	}
}

func TestReplacedEndsAreProjectedAtNear(t *testing.T) {
	m := newMaker()
	different := 0
	for range rounds {
		c, a, b := m.ordinaryCamera(), m.pointWithin(10), m.pointWithin(10)
		first, other, seen, code := impl.ClipAhead(c, a, b)
		spots := [2]impl.Spot{}
		if seen {
			for i, p := range []impl.Point{first, other} {
				depth := wantDepth(c, p)
				if p != a && p != b {
					if depth != c.Near {
						different++
					}
					depth = c.Near
				}
				spots[i] = wantSpot(c, wantLess(p, c.Eye), depth)
			}
		}
		same(t, "ProjectLine "+row(c, a, b), all(impl.ProjectLine(c, a, b)), all(spots[0], spots[1], seen, code))
	}
	if different < 100 {
		t.Errorf("only %d ends have another depth than Near", different)
	}
}

func TestReplacedEndsNeedNotBeValid(t *testing.T) {
	// The difference of the ends is rounded, so that what is replaced is a little too far away.
	a, b := impl.Point{-impl.MaxSize + 0.0625, -1, 0}, impl.Point{impl.MaxSize, 0.5, 0}
	most := above(impl.MaxSize)
	same(t, "ClipAhead", all(impl.ClipAhead(straight, a, b)), all(impl.Point{most, 0.5, 0}, b, true, codeOK))
	same(t, "ProjectLine", all(impl.ProjectLine(straight, a, b)),
		all(impl.Spot{4 * most, 0}, impl.Spot{4 * impl.MaxSize, 0}, true, codeOK))
	same(t, "ProjectLines", all(impl.ProjectLines(straight, [][2]impl.Point{{a, b}})),
		all([][2]impl.Spot{{{4 * most, 0}, {4 * impl.MaxSize, 0}}}, []int64{0}, codeOK))
}

func TestProjectLines(t *testing.T) {
	list := [][2]impl.Point{
		{{0, -1, 0}, {0, -2, 0}},
		{{0, 1, 0}, {1, 1, 0}},
		{{2, 4, 1}, {2, -3, 1}},
		{{0, 0, 0}, {0, below(0.5), 0}},
		{{2, -3, 1}, {2, 4, 1}},
	}
	same(t, "ProjectLines", all(impl.ProjectLines(straight, list)), all(
		[][2]impl.Spot{{{0, 0}, {2, 0}}, {{1, 0.5}, {8, 4}}, {{8, 4}, {1, 0.5}}}, []int64{1, 2, 4}, codeOK))
	var none [][2]impl.Spot
	for _, list := range [][][2]impl.Point{nil, {}, list[:1], make([][2]impl.Point, impl.MaxLinesSeen)} {
		same(t, "ProjectLines", all(impl.ProjectLines(straight, list)), all(none, []int64{}, codeOK))
	}
}

func TestProjectLinesOfMany(t *testing.T) {
	list := make([][2]impl.Point, 1000000/6)
	for i := range list {
		list[i] = [2]impl.Point{{float32(i), 1, 0}, {0, float32(i), 1}}
	}
	var none [][2]impl.Spot
	same(t, "ProjectLines of just as many", all(impl.ProjectLines(straight, list[:200])), wantProjectLines(straight, list[:200]))
	_, indices, _ := impl.ProjectLines(straight, list[:200])
	if len(indices) != 200 {
		t.Errorf("of 200 lines %d are seen", len(indices))
	}
	same(t, "ProjectLines of more", all(impl.ProjectLines(straight, list[:201])), all(none, []int64{}, codeLimit))
	same(t, "ProjectLines of all", all(impl.ProjectLines(straight, list)), all(none, []int64{}, codeLimit))
	// Lines that are not seen count as well.
	same(t, "ProjectLines of none that is seen", all(impl.ProjectLines(straight, make([][2]impl.Point, 201))), all(none, []int64{}, codeLimit))
	// ErrInvalid is ahead of ErrLimit, wherever the point is.
	for _, n := range []int{1, 200, 201, len(list)} {
		for end := range 2 {
			for _, p := range badPoints {
				kept := list[n-1]
				list[n-1][end] = p
				same(t, "ProjectLines of a bad one", all(impl.ProjectLines(straight, list[:n])), all(none, []int64{}, codeInvalid))
				list[n-1] = kept
			}
		}
	}
}

func TestProjectLinesLeavesItsArguments(t *testing.T) {
	m := newMaker()
	for range rounds / 100 {
		c := m.camera()
		whole := make([][2]impl.Point, 20)
		for i := range whole {
			whole[i] = [2]impl.Point{m.validPoint(), m.validPoint()}
		}
		// The capacity behind the list has to stay as it is, too.
		list, kept := whole[:m.Intn(20)], slices.Clone(whole)
		spots, indices, _ := impl.ProjectLines(c, list)
		if row(whole) != row(kept) {
			t.Fatalf("ProjectLines changed %s to %s", row(kept), row(whole))
		}
		again, indicesAgain, _ := impl.ProjectLines(c, list)
		want := row(again, indicesAgain)
		// Results are new memory.
		for _, s := range spots[:cap(spots)] {
			s[0][0]++
		}
		for i := range spots[:cap(spots)] {
			spots[:cap(spots)][i] = [2]impl.Spot{{-7, -7}, {-7, -7}}
		}
		for i := range indices[:cap(indices)] {
			indices[:cap(indices)][i] = -7
		}
		if row(whole) != row(kept) || row(again, indicesAgain) != want {
			t.Fatalf("ProjectLines %s: the results share memory", row(list))
		}
		same(t, "ProjectLines again", all(impl.ProjectLines(c, list)), wantProjectLines(c, list))
	}
}
