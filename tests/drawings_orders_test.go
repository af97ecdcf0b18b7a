package tests

import (
	"math"
	"slices"
	"testing"

	"loop.example/g01249/impl"
)

// inOrder returns the order of so many strokes as they stand in their list; none is turned.
func inOrder(n int) ([]int64, []bool) {
	order := make([]int64, n)
	for i := range order {
		order[i] = int64(i)
	}
	return order, make([]bool, n)
}

// onRow makes strokes along the row 0, each from a place to another one.
func onRow(ends ...[2]int16) []impl.Stroke {
	var list []impl.Stroke
	for _, e := range ends {
		list = append(list, inRow(0, e[0], e[1]))
	}
	return list
}

func TestDistanceOf(t *testing.T) {
	const low, high = math.MinInt16, math.MaxInt16
	for _, c := range []struct {
		a, b impl.Mark
		want int64
	}{
		{impl.Mark{1, 2}, impl.Mark{1, 2}, 0},
		{impl.Mark{1, 2}, impl.Mark{-8, 3}, 9},
		{impl.Mark{1, 2}, impl.Mark{3, -8}, 10},
		{impl.Mark{0, 0}, impl.Mark{-3, 3}, 3},
		{impl.Mark{501, 0}, impl.Mark{-501, 1001}, 1002},
		// Differences that no int16 holds.
		{impl.Mark{low, 0}, impl.Mark{high, 0}, 65535},
		{impl.Mark{0, low}, impl.Mark{0, high}, 65535},
		{impl.Mark{low, low}, impl.Mark{high, high}, 65535},
		{impl.Mark{low, high}, impl.Mark{high, low}, 65535},
		{impl.Mark{low, 0}, impl.Mark{0, 0}, 32768},
		{impl.Mark{0, low}, impl.Mark{1, 0}, 32768},
		{impl.Mark{low, low}, impl.Mark{low, low}, 0},
		{impl.Mark{high, 1}, impl.Mark{-1, 1}, 32768},
		{impl.Mark{-20000, 5}, impl.Mark{20000, -32000}, 40000},
	} {
		same(t, "DistanceOf "+row(c.a, c.b), all(impl.DistanceOf(c.a, c.b), impl.DistanceOf(c.b, c.a)), all(c.want, c.want))
	}
}

func TestWayOf(t *testing.T) {
	list := onRow([2]int16{10, 0}, [2]int16{11, 20}, [2]int16{-5, -6})
	for _, c := range []struct {
		order  []int64
		turned []bool
		start  impl.Mark
		want   int64
	}{
		{[]int64{0, 1, 2}, []bool{false, false, false}, impl.Mark{}, 10 + 11 + 25},
		{[]int64{0, 1, 2}, []bool{true, false, false}, impl.Mark{}, 0 + 1 + 25},
		// What is turned is told by places of the order, not by strokes.
		{[]int64{2, 1, 0}, []bool{true, false, false}, impl.Mark{}, 6 + 16 + 10},
		{[]int64{2, 1, 0}, []bool{false, false, true}, impl.Mark{}, 5 + 17 + 20},
		{[]int64{1, 2, 0}, []bool{true, true, true}, impl.Mark{0, 7}, 20 + 17 + 5},
		{[]int64{0, 1, 2}, []bool{true, false, false}, impl.Mark{-500, 500}, 500 + 1 + 25},
		// The way of the strokes themselves does not count.
		{[]int64{0, 1, 2}, []bool{true, true, true}, impl.Mark{0, 0}, 0 + 10 + 17},
	} {
		same(t, "WayOf "+row(c.order, c.turned, c.start), all(impl.WayOf(list, c.order, c.turned, c.start)), all(c.want, codeOK))
	}
	for _, none := range [][]impl.Stroke{nil, {}} {
		same(t, "WayOf nothing", all(impl.WayOf(none, nil, nil, impl.Mark{500, -500})), all(int64(0), codeOK))
		same(t, "WayOf nothing", all(impl.WayOf(none, []int64{}, []bool{}, impl.Mark{})), all(int64(0), codeOK))
	}
	// The greatest way of two strokes: dashes do not matter.
	long := []impl.Stroke{{A: impl.Mark{500, 500}, B: impl.Mark{500, 500}, Dash: impl.DsDotted}, {A: impl.Mark{-500, 0}, B: impl.Mark{-500, 0}}}
	same(t, "WayOf a long way", all(impl.WayOf(long, []int64{0, 1}, []bool{false, true}, impl.Mark{-500, -500})), all(int64(2000), codeOK))
}

func TestOrdersThatAreNone(t *testing.T) {
	list := onRow([2]int16{10, 0}, [2]int16{11, 20}, [2]int16{-5, -6})
	good, flags := inOrder(3)
	for name, c := range map[string]struct {
		order  []int64
		turned []bool
	}{
		"nil":              {nil, flags},
		"empty":            {[]int64{}, flags},
		"too short":        {[]int64{0, 1}, flags},
		"too long":         {[]int64{0, 1, 2, 3}, flags},
		"too long, twice":  {[]int64{0, 1, 2, 2}, flags},
		"twice":            {[]int64{0, 1, 1}, flags},
		"twice the first":  {[]int64{0, 0, 2}, flags},
		"always the same":  {[]int64{2, 2, 2}, flags},
		"out of range":     {[]int64{0, 1, 3}, flags},
		"negative":         {[]int64{0, 1, -1}, flags},
		"from 1 on":        {[]int64{1, 2, 3}, flags},
		"greatest":         {[]int64{0, 1, math.MaxInt64}, flags},
		"least":            {[]int64{math.MinInt64, 1, 2}, flags},
		"wrapped":          {[]int64{0, 1, 1<<32 + 2}, flags},
		"no turns":         {good, nil},
		"fewer turns":      {good, flags[:2]},
		"more turns":       {good, make([]bool, 4)},
		"both shorter":     {good[:2], flags[:2]},
		"both longer":      {[]int64{0, 1, 2, 3}, make([]bool, 4)},
		"nothing":          {nil, nil},
		"long":             {make([]int64, 1000), make([]bool, 1000)},
		"right, and twice": {[]int64{0, 1, 2, 0, 1, 2}, make([]bool, 6)},
	} {
		same(t, "WayOf "+name, all(impl.WayOf(list, c.order, c.turned, impl.Mark{})), all(int64(0), codeRange))
		for _, rounds := range []int64{0, 1, 50, 51} {
			same(t, "ImproveOrder "+name, all(impl.ImproveOrder(list, c.order, c.turned, impl.Mark{}, rounds)), all([]int64{}, []bool{}, int64(0), codeRange))
		}
	}
	same(t, "an order of nothing", all(impl.WayOf(nil, []int64{0}, []bool{false}, impl.Mark{})), all(int64(0), codeRange))
	same(t, "turns of nothing", all(impl.WayOf(nil, nil, []bool{false}, impl.Mark{})), all(int64(0), codeRange))
}

func TestOrdersOfManyStrokes(t *testing.T) {
	many := make([]impl.Stroke, 61)
	order, turned := inOrder(60)
	same(t, "WayOf 60", all(impl.WayOf(many[:60], order, turned, impl.Mark{3, 4})), all(int64(4), codeOK))
	same(t, "OrderStrokes 60", all(impl.OrderStrokes(many[:60], impl.Mark{})), all(order, turned, codeOK))
	same(t, "ImproveOrder 60", all(impl.ImproveOrder(many[:60], order, turned, impl.Mark{3, 4}, 50)), all(order, turned, int64(4), codeOK))
	// ErrLimit is ahead of ErrRange.
	full, flags := inOrder(61)
	for _, c := range []struct {
		order  []int64
		turned []bool
	}{{full, flags}, {order, turned}, {nil, nil}, {make([]int64, 61), flags}} {
		same(t, "WayOf 61", all(impl.WayOf(many, c.order, c.turned, impl.Mark{})), all(int64(0), codeLimit))
		for _, rounds := range []int64{0, 50, -1, 51} {
			same(t, "ImproveOrder 61", all(impl.ImproveOrder(many, c.order, c.turned, impl.Mark{}, rounds)), all([]int64{}, []bool{}, int64(0), codeLimit))
		}
	}
	same(t, "OrderStrokes 61", all(impl.OrderStrokes(many, impl.Mark{})), all([]int64{}, []bool{}, codeLimit))
}

func TestOrderStrokes(t *testing.T) {
	for name, c := range map[string]struct {
		list   []impl.Stroke
		start  impl.Mark
		order  []int64
		turned []bool
	}{
		"nil":   {nil, impl.Mark{}, nil, nil},
		"empty": {[]impl.Stroke{}, impl.Mark{}, nil, nil},
		"one":   {onRow([2]int16{10, 0}), impl.Mark{}, []int64{0}, []bool{true}},
		"other": {onRow([2]int16{10, 0}), impl.Mark{9, 0}, []int64{0}, []bool{false}},
		"three": {onRow([2]int16{20, 30}, [2]int16{1, 5}, [2]int16{12, 6}), impl.Mark{}, []int64{1, 2, 0}, []bool{false, true, false}},
		// It is the end of the one before that counts.
		"the end": {onRow([2]int16{1, 30}, [2]int16{2, 3}, [2]int16{29, 40}), impl.Mark{}, []int64{0, 2, 1}, []bool{false, false, true}},
		// Both ends are as near: it is not turned.
		"both ends":      {onRow([2]int16{-5, 5}), impl.Mark{}, []int64{0}, []bool{false}},
		"both ends, 2":   {onRow([2]int16{5, -5}), impl.Mark{}, []int64{0}, []bool{false}},
		"one mark":       {onRow([2]int16{5, 5}, [2]int16{5, 5}), impl.Mark{}, []int64{0, 1}, []bool{false, false}},
		"not the nearer": {[]impl.Stroke{from(impl.Mark{3, 3}, impl.Mark{0, 3})}, impl.Mark{}, []int64{0}, []bool{false}},
		// Several are as near: the one with the least index, even if it has to be turned.
		"as near":         {onRow([2]int16{5, 9}, [2]int16{-5, -9}, [2]int16{5, 7}), impl.Mark{}, []int64{0, 2, 1}, []bool{false, true, false}},
		"as near, turned": {onRow([2]int16{9, 5}, [2]int16{5, 9}), impl.Mark{}, []int64{0, 1}, []bool{true, true}},
		"turned later":    {onRow([2]int16{5, 9}, [2]int16{9, 5}), impl.Mark{}, []int64{0, 1}, []bool{false, false}},
		"as far as up":    {[]impl.Stroke{from(impl.Mark{4, 4}, impl.Mark{8, 8}), from(impl.Mark{0, 4}, impl.Mark{0, 8}), from(impl.Mark{3, -4}, impl.Mark{3, -3})}, impl.Mark{}, []int64{2, 0, 1}, []bool{true, false, false}},
		"dashes":          {[]impl.Stroke{{A: impl.Mark{2, 0}, Dash: 3}, {A: impl.Mark{1, 0}, B: impl.Mark{9, 0}, Dash: 1}}, impl.Mark{1, 0}, []int64{1, 0}, []bool{false, false}},
		"far away":        {onRow([2]int16{-500, -499}, [2]int16{500, 499}), impl.Mark{0, 500}, []int64{0, 1}, []bool{false, true}},
	} {
		same(t, "OrderStrokes "+name, all(impl.OrderStrokes(c.list, c.start)), all(c.order, c.turned, codeOK))
	}
}

func TestImproveOrder(t *testing.T) {
	// In order and as they stand the pen would go back and forth.
	list := onRow([2]int16{10, 0}, [2]int16{11, 20})
	for _, c := range []struct {
		order  []int64
		turned []bool
		rounds int64
		want   []int64
		turns  []bool
		way    int64
	}{
		{[]int64{1, 0}, []bool{false, false}, 10, []int64{0, 1}, []bool{true, false}, 1},
		{[]int64{1, 0}, []bool{false, false}, 0, []int64{1, 0}, []bool{false, false}, 11 + 10},
		{[]int64{0, 1}, []bool{false, false}, 0, []int64{0, 1}, []bool{false, false}, 10 + 11},
		{[]int64{0, 1}, []bool{false, false}, 1, []int64{0, 1}, []bool{true, false}, 1},
		{[]int64{0, 1}, []bool{false, false}, 50, []int64{0, 1}, []bool{true, false}, 1},
		{[]int64{0, 1}, []bool{true, false}, 50, []int64{0, 1}, []bool{true, false}, 1},
		{[]int64{0, 1}, []bool{true, true}, 50, []int64{0, 1}, []bool{true, false}, 1},
	} {
		args := row(c.order, c.turned, c.rounds)
		same(t, "ImproveOrder "+args, all(impl.ImproveOrder(list, c.order, c.turned, impl.Mark{}, c.rounds)), all(c.want, c.turns, c.way, codeOK))
	}
	for _, none := range [][]impl.Stroke{nil, {}} {
		for _, rounds := range []int64{0, 1, 50} {
			same(t, "ImproveOrder nothing", all(impl.ImproveOrder(none, nil, nil, impl.Mark{7, 7}, rounds)), all([]int64{}, []bool{}, int64(0), codeOK))
		}
	}
	order, turned := inOrder(2)
	for _, rounds := range []int64{-1, 51, -50, math.MaxInt64, math.MinInt64, 1 << 32} {
		same(t, "ImproveOrder "+row(rounds), all(impl.ImproveOrder(list, order, turned, impl.Mark{}, rounds)), all([]int64{}, []bool{}, int64(0), codeRange))
		same(t, "ImproveOrder nothing "+row(rounds), all(impl.ImproveOrder(nil, nil, nil, impl.Mark{}, rounds)), all([]int64{}, []bool{}, int64(0), codeRange))
	}
}

// Just the first part with a shorter way is turned over in a round, not the one with the shortest.
func TestImproveOrderTakesTheFirstShorterWay(t *testing.T) {
	// Strokes of one mark at 3, 2, 1 and 9: to turn over the first two is as long, the first three shorter.
	list := onRow([2]int16{3, 3}, [2]int16{2, 2}, [2]int16{1, 1}, [2]int16{9, 9})
	order, turned := inOrder(4)
	same(t, "the way", all(impl.WayOf(list, order, turned, impl.Mark{})), all(int64(3+1+1+8), codeOK))
	for rounds, want := range []struct {
		order  []int64
		turned []bool
		way    int64
	}{
		{[]int64{0, 1, 2, 3}, []bool{false, false, false, false}, 13},
		// i 0, k 1 is as long: 2 + 1 + 2 + 8; k 2 is shorter: 1 + 1 + 1 + 6.
		{[]int64{2, 1, 0, 3}, []bool{true, true, true, false}, 9},
		{[]int64{2, 1, 0, 3}, []bool{true, true, true, false}, 9},
	} {
		same(t, "round "+row(int64(rounds)), all(impl.ImproveOrder(list, order, turned, impl.Mark{}, int64(rounds))), all(want.order, want.turned, want.way, codeOK))
	}
	// Strokes of one mark at 8, 4, 6 and 2: each round goes on from what the one before has taken.
	list = onRow([2]int16{8, 8}, [2]int16{4, 4}, [2]int16{6, 6}, [2]int16{2, 2})
	for rounds, want := range []struct {
		order  []int64
		turned []bool
		way    int64
	}{
		{[]int64{0, 1, 2, 3}, []bool{false, false, false, false}, 6 + 4 + 2 + 4},
		// i 0: k 1 has 2 + 4 + 2 + 4, which is the first one, but k 3 would have 0 + 4 + 2 + 4.
		{[]int64{1, 0, 2, 3}, []bool{true, true, false, false}, 12},
		// i 0: k 1 has the longer way back; k 2 has 4 + 2 + 4 + 2; k 3 has 0 + 4 + 2 + 4.
		{[]int64{3, 2, 0, 1}, []bool{true, true, false, false}, 10},
		// i 0 has none; i 1: k 1 has none, k 2 has 0 + 6 + 2 + 2, which is as long, k 3 has 0 + 2 + 4 + 2.
		{[]int64{3, 1, 0, 2}, []bool{true, true, true, false}, 8},
		// i 2: k 3 has 0 + 2 + 2 + 2.
		{[]int64{3, 1, 2, 0}, []bool{true, true, true, false}, 6},
		{[]int64{3, 1, 2, 0}, []bool{true, true, true, false}, 6},
	} {
		same(t, "round "+row(int64(rounds)), all(impl.ImproveOrder(list, order, turned, impl.Mark{2, 0}, int64(rounds))), all(want.order, want.turned, want.way, codeOK))
	}
}

// A stroke that is turned over alone is turned, and one that is turned already is turned back.
func TestImproveOrderTurnsBack(t *testing.T) {
	list := onRow([2]int16{0, 5}, [2]int16{6, 9})
	same(t, "first", all(impl.ImproveOrder(list, []int64{0, 1}, []bool{true, true}, impl.Mark{}, 1)), all([]int64{0, 1}, []bool{false, true}, int64(4), codeOK))
	same(t, "second", all(impl.ImproveOrder(list, []int64{0, 1}, []bool{true, true}, impl.Mark{}, 2)), all([]int64{0, 1}, []bool{false, false}, int64(1), codeOK))
	// Both at once: the other way round they are in the opposite order, and turned back.
	same(t, "both", all(impl.ImproveOrder(list, []int64{1, 0}, []bool{true, true}, impl.Mark{}, 1)), all([]int64{0, 1}, []bool{false, false}, int64(1), codeOK))
}

// It ends behind so many rounds even if there would be more to gain.
func TestImproveOrderEndsWithItsRounds(t *testing.T) {
	m := newMaker()
	// Many strokes in an order without sense: each round gains a little.
	list := m.validStrokes(60)
	order, turned := inOrder(60)
	ways := []int64{}
	for rounds := range int64(51) {
		_, _, way, code := impl.ImproveOrder(list, order, turned, impl.Mark{}, rounds)
		if code != codeOK || rounds > 0 && way >= ways[rounds-1] {
			t.Fatalf("round %d: the way is %d with the code %d, behind %v", rounds, way, code, ways)
		}
		ways = append(ways, way)
	}
	best, turns, _, _ := impl.ImproveOrder(list, order, turned, impl.Mark{}, 50)
	if _, _, way, _ := impl.ImproveOrder(list, best, turns, impl.Mark{}, 50); way >= ways[50] {
		t.Errorf("there is nothing to gain behind 50 rounds: %d, %d", ways[50], way)
	}
	if sorted := slices.Sorted(slices.Values(best)); !slices.Equal(sorted, order) {
		t.Errorf("the order has not all strokes: %v", best)
	}
}
