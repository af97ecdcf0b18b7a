package tests

import (
	"math"
	"testing"

	"loop.example/g01249/impl"
)

func TestSineOf(t *testing.T) {
	cases := map[float32]float32{
		0: 0, 0.25: 1, -0.25: -1, 0.75: -1, -0.75: 1, 1: 0, -1: 0, 1000: 0, -1000: 0, 1000.25: 1,
		0x1p40: 0, greatest: 0, -greatest: 0,
		infinite: nan, -infinite: nan,
		tiniest: 6 * tiniest,
	}
	for turns, want := range cases {
		same(t, "SineOf "+row(turns), all(impl.SineOf(turns)), all(want))
	}
	same(t, "SineOf NaN", all(impl.SineOf(nan)), all(nan))
	same(t, "SineOf -0", all(impl.SineOf(minusZero)), all(minusZero))
}

func TestSineOfHalves(t *testing.T) {
	// A half is as near to two integers, and the even one is taken away: the sign of what is left shows it.
	for turns, want := range map[float32]float32{
		0.5: 0, -0.5: minusZero, 1.5: minusZero, -1.5: 0, 2.5: 0, -2.5: minusZero, 999.5: minusZero, -999.5: 0,
	} {
		same(t, "SineOf "+row(turns), all(impl.SineOf(turns)), all(want))
	}
}

func TestSineIsMadeInOrder(t *testing.T) {
	// This is the one number whose narrow sine tells (y / d) * s from (y * s) / d.
	turns := math.Float32frombits(0x3ee05015)
	same(t, "SineOf "+row(turns), all(impl.SineOf(turns)), all(math.Float32frombits(0x3ec21dd9)))
	same(t, "the sine wanted", all(wantSine(turns)), all(math.Float32frombits(0x3ec21dd9)))
}

func TestSineIsNearlyTheSine(t *testing.T) {
	m := newMaker()
	for range rounds {
		turns := m.within(1000)
		want := math.Sin(2 * math.Pi * math.Remainder(float64(turns), 1))
		if got := float64(impl.SineOf(turns)); math.Abs(got-want) > 1e-7 {
			t.Fatalf("SineOf %s: got %v, want nearly %v", row(turns), got, want)
		}
	}
}

func TestTurnAroundAxes(t *testing.T) {
	cases := []struct {
		axis  impl.Point
		turns float32
		p     impl.Point
		want  impl.Point
	}{
		{impl.Point{0, 0, 5}, 0.25, impl.Point{1, 0, 7}, impl.Point{0, 1, 7}},
		{impl.Point{0, 0, -5}, 0.25, impl.Point{1, 0, 7}, impl.Point{0, -1, 7}},
		{impl.Point{3, 0, 0}, 0.5, impl.Point{1, 2, 3}, impl.Point{1, -2, -3}},
		{impl.Point{1, 1, 1}, 1.0 / 3, impl.Point{1, 2, 3}, impl.Point{3, 1, 2}},
		{impl.Point{1, 1, 1}, -2.0 / 3, impl.Point{1, 2, 3}, impl.Point{3, 1, 2}},
		{impl.Point{1, 2, 3}, 1000, impl.Point{4, 5, 6}, impl.Point{4, 5, 6}},
		{impl.Point{1, 2, 3}, -1000, impl.Point{4, 5, 6}, impl.Point{4, 5, 6}},
		{impl.Point{limit, 0, 0}, 0.75, impl.Point{0, 1, 0}, impl.Point{0, 0, -1}},
	}
	for _, c := range cases {
		got, code := impl.TurnAround(c.axis, c.turns, c.p)
		if code != impl.OK || impl.DistanceBetween(got, c.want) > 0.00001 {
			t.Errorf("TurnAround %s: got %s, want nearly %s", row(c.axis, c.turns, c.p), row(got, code), row(c.want))
		}
	}
}

func TestTurnAroundErrors(t *testing.T) {
	ok, bad, outside, state := int64(impl.OK), int64(impl.ErrInvalid), int64(impl.ErrRange), int64(impl.ErrState)
	up, zero := impl.Point{0, 0, 1}, impl.Point{}
	cases := []struct {
		axis  impl.Point
		turns float32
		p     impl.Point
		code  int64
	}{
		{up, 1000, zero, ok},
		{up, -1000, zero, ok},
		{up, above(1000), zero, outside},
		{up, below(-1000), zero, outside},
		{up, infinite, zero, outside},
		{up, -infinite, zero, outside},
		{up, nan, zero, outside},
		{zero, 1, zero, state},
		{impl.Point{0, 0, below(limit)}, 1, zero, state},
		// ErrInvalid is ahead of ErrRange, and this is ahead of ErrState.
		{zero, 2000, zero, outside},
		{zero, nan, zero, outside},
		{impl.Point{nan, 0, 0}, 2000, zero, bad},
		{zero, 2000, impl.Point{0, above(impl.MaxSize), 0}, bad},
		{impl.Point{0, 0, infinite}, 1, zero, bad},
		{up, 1, impl.Point{0, 0, -infinite}, bad},
	}
	for _, c := range cases {
		same(t, "TurnAround "+row(c.axis, c.turns, c.p), two(impl.TurnAround(c.axis, c.turns, c.p)), two(zero, c.code))
	}
}
