package tests

import (
	"testing"

	"loop.example/g01249/impl"
)

// rounds is how many arguments each function is tried with.
const rounds = 20000

func TestPointsToTheLastBit(t *testing.T) {
	m := newMaker()
	for range rounds {
		p, q, by := m.anyPoint(), m.anyPoint(), m.number()
		args := row(p, q, by)
		same(t, "AddPoints "+args, all(impl.AddPoints(p, q)), all(numberwise(sum, p, q)))
		same(t, "SubPoints "+args, all(impl.SubPoints(p, q)), all(numberwise(difference, p, q)))
		same(t, "ScalePoint "+args, all(impl.ScalePoint(p, by)), all(wantScale(p, by)))
		same(t, "DotOf "+args, all(impl.DotOf(p, q)), all(wantDot(p, q)))
		same(t, "CrossOf "+args, all(impl.CrossOf(p, q)), all(wantCross(p, q)))
		same(t, "LengthOf "+args, all(impl.LengthOf(p)), all(wantLength(p)))
		same(t, "DistanceBetween "+args, all(impl.DistanceBetween(p, q)), all(wantLength(numberwise(difference, p, q))))
		same(t, "BetweenPoints "+args, all(impl.BetweenPoints(p, q, by)), all(wantBetween(p, q, by)))
		if t.Failed() {
			return
		}
	}
}

func TestPlanesToTheLastBit(t *testing.T) {
	m := newMaker()
	for range rounds {
		a, b, c := m.point(), m.point(), m.point()
		x, y := m.plane(), m.plane()
		args := row(a, b, c, x, y)
		same(t, "UnitOf "+args, two(impl.UnitOf(a)), two(wantUnit(a)))
		same(t, "PlaneAt "+args, two(impl.PlaneAt(a, b)), two(wantPlaneAt(a, b)))
		same(t, "PlaneThrough "+args, two(impl.PlaneThrough(a, b, c)), two(wantPlaneThrough(a, b, c)))
		same(t, "ValidPlane "+args, all(impl.ValidPlane(x)), all(wantValidPlane(x)))
		same(t, "SideOf "+args, two(impl.SideOf(x, a)), two(wantSide(x, a)))
		same(t, "FootOf "+args, two(impl.FootOf(x, a)), two(wantFoot(x, a, 1)))
		same(t, "MirrorPoint "+args, two(impl.MirrorPoint(x, a)), two(wantFoot(x, a, 2)))
		same(t, "MeetLine "+args, three(impl.MeetLine(x, a, b)), three(wantMeetLine(x, a, b)))
		same(t, "MeetPlanes "+args, three(impl.MeetPlanes(x, y)), three(wantMeetPlanes(x, y)))
		if t.Failed() {
			return
		}
	}
}

func TestTurnsToTheLastBit(t *testing.T) {
	m := newMaker()
	for range rounds {
		axis, turns, p := m.point(), m.turns(), m.point()
		args := row(axis, turns, p)
		same(t, "SineOf "+args, all(impl.SineOf(turns)), all(wantSine(turns)))
		same(t, "TurnAround "+args, two(impl.TurnAround(axis, turns, p)), two(wantTurn(axis, turns, p)))
		if t.Failed() {
			return
		}
	}
}

func two[A any](a A, code int64) []any { return []any{a, code} }

func three[A, B any](a A, b B, code int64) []any { return []any{a, b, code} }
