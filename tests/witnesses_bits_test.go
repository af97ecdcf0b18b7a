package tests

import (
	"testing"

	"loop.example/g01249/impl"
)

func TestClaimsToTheLastBit(t *testing.T) {
	t.Parallel()
	m, found := newMaker(), codesFound{}
	kinds, zeros := map[int8]int{}, 0
	for range rounds / 20 {
		x := m.scene()
		same(t, "ValidScene "+row(x), all(impl.ValidScene(x)), all(codeOfScene(x) == codeOK))
		for range 6 {
			p := m.sightPoint(x)
			c, code := impl.ClaimFor(x, p)
			found.compare(t, "ClaimFor", row(x, p), all(c, code), two(wantClaimFor(x, p)))
			kinds[c.Kind]++
			if c.Kind == impl.ClHidden && c.Share == 0 {
				zeros++
			}
		}
		list := make([]impl.Point, []int{0, 1, 2, 5, 60, 61}[m.Intn(6)])
		for i := range list {
			list[i] = m.sightPoint(x)
		}
		found.compare(t, "ClaimsFor", row(x, list), all(impl.ClaimsFor(x, list)), two(wantClaimsFor(x, list)))
		if t.Failed() {
			return
		}
	}
	for _, kind := range []int8{1, 2, 3} {
		if kinds[kind] < 500 {
			t.Errorf("only %d claims were of the kind %d", kinds[kind], kind)
		}
	}
	if zeros < 20 {
		t.Errorf("only %d shares were zeros", zeros)
	}
	found.check(t, map[string][]int64{"ClaimFor": {codeOK, codeInvalid}, "ClaimsFor": {codeOK, codeInvalid, codeLimit}})
}

func TestChecksToTheLastBit(t *testing.T) {
	t.Parallel()
	m, found := newMaker(), codesFound{}
	answers := map[string]int{}
	for range rounds / 20 {
		x := m.scene()
		for range 12 {
			c := m.claim(x)
			yes, code := impl.CheckClaim(x, c)
			found.compare(t, "CheckClaim", row(x, c), all(yes, code), two(wantCheckClaim(x, c)))
			if code == codeOK {
				answers[row(c.Kind, yes)]++
			}
		}
		list := m.claims(x)
		found.compare(t, "CheckClaims", row(x, list), all(impl.CheckClaims(x, list)), two(wantCheckClaims(x, list)))
		found.compare(t, "BrokenClaims", row(x, list), all(impl.BrokenClaims(x, list)), two(wantBrokenClaims(x, list)))
		if t.Failed() {
			return
		}
	}
	for _, kind := range []int8{1, 2, 3} {
		for _, yes := range []bool{true, false} {
			if answers[row(kind, yes)] < 150 {
				t.Errorf("only %d claims of the kind %d were answered by %v", answers[row(kind, yes)], kind, yes)
			}
		}
	}
	codes := []int64{codeOK, codeInvalid, codeRange, codeLimit}
	found.check(t, map[string][]int64{"CheckClaim": {codeOK, codeInvalid, codeRange}, "CheckClaims": append(codes, codeNotFound), "BrokenClaims": codes})
}

func TestSightToTheLastBit(t *testing.T) {
	t.Parallel()
	m, found := newMaker(), codesFound{}
	both, runs := map[bool]int{}, map[int]int{}
	for range rounds / 16 {
		x, parts := m.scene(), m.parts()
		found.compare(t, "SeenCorners", row(x), all(impl.SeenCorners(x)), two(wantSeenCorners(x)))
		for range 3 {
			a, b := m.lineIn(x)
			if m.Intn(2) == 0 {
				parts = 1 + m.Int63n(16)
			}
			args := row(x, a, b, parts)
			yes, code := impl.SeeEachOther(x, a, b)
			found.compare(t, "SeeEachOther", args, all(yes, code), two(wantSeeEachOther(x, a, b)))
			found.compare(t, "SeenShare", args, all(impl.SeenShare(x, a, b, parts)), two(wantSeenShare(x, a, b, parts)))
			list, runCode := impl.SeenParts(x, a, b, parts)
			found.compare(t, "SeenParts", args, all(list, runCode), two(wantSeenParts(x, a, b, parts)))
			if code == codeOK {
				both[yes]++
				runs[len(list)]++
			}
		}
		if t.Failed() {
			return
		}
	}
	if both[true] < 300 || both[false] < 300 || runs[0] < 300 || runs[1] < 300 || runs[2] < 50 {
		t.Errorf("there were too few answers of one kind: %v, %v", both, runs)
	}
	codes := []int64{codeOK, codeInvalid, codeRange}
	found.check(t, map[string][]int64{"SeenCorners": codes[:2], "SeeEachOther": codes[:2], "SeenShare": codes, "SeenParts": codes})
}

func TestSketchesToTheLastBit(t *testing.T) {
	t.Parallel()
	m, found := newMaker(), codesFound{}
	drawn, left := 0, 0
	for i := range rounds / 40 {
		x, parts := m.scene(), m.parts()
		if i%10 == 0 {
			x, parts = m.crowded(), 1+m.Int63n(4)
		}
		lines, code := impl.SketchOf(x, parts)
		found.compare(t, "SketchOf", row(x, parts), all(lines, code), two(wantSketchOf(x, parts)))
		if t.Failed() {
			return
		}
		drawn += len(lines)
		if code == codeOK {
			_, without := sketchOf(x, parts)
			left += without
		}
	}
	if drawn < 1000 || left < 20 {
		t.Errorf("there were only %d lines, and %d runs without one", drawn, left)
	}
	found.check(t, map[string][]int64{"SketchOf": {codeOK, codeInvalid, codeRange, codeLimit}})
}

func TestScenesInOrderToTheLastBit(t *testing.T) {
	t.Parallel()
	m, found := newMaker(), codesFound{}
	for range rounds / 10 {
		x := m.scene()
		order, solid, by := m.orderFor(x), int64(m.Intn(8)-1), m.step()
		args := row(x, order, solid, by)
		found.compare(t, "CheckOrder", args, all(impl.CheckOrder(x, order)), three(wantCheckOrder(x, order)))
		y, code := impl.MoveInScene(x, solid, by)
		found.compare(t, "MoveInScene", args, all(y, code), two(wantMoveInScene(x, solid, by)))
		same(t, "SameScene "+args, all(impl.SameScene(x, y)), all(row(x) == row(y)))
		text := sceneText(x)
		if codeOfScene(x) == codeOK {
			same(t, "SceneText "+row(x), all(impl.SceneText(x)), all(text))
			found.compare(t, "ReadScene", text, all(impl.ReadScene(text)), all(x, codeOK))
		} else {
			same(t, "SceneText "+row(x), all(impl.SceneText(x)), all(""))
			found.compare(t, "ReadScene", text, all(impl.ReadScene(text)), all(impl.Scene{}, codeSyntax))
		}
		if t.Failed() {
			return
		}
	}
	found.check(t, map[string][]int64{
		"CheckOrder":  {codeOK, codeInvalid, codeRange, codeNotFound},
		"MoveInScene": {codeOK, codeInvalid, codeRange, codeState},
		"ReadScene":   {codeOK, codeSyntax},
	})
}

// Claims are the same if all of their fields are.
func TestSameClaimsToTheLastBit(t *testing.T) {
	t.Parallel()
	m := newMaker()
	equal := map[bool]int{}
	for range rounds / 10 {
		x := m.scene()
		c := m.claim(x)
		c.Share, c.At[m.Intn(3)] = m.number(), m.number()
		for _, d := range []impl.Claim{c, m.falsified(c), m.falsified(c), m.claim(x)} {
			want := row(c) == row(d)
			same(t, "SameClaim "+row(c, d), all(impl.SameClaim(c, d), impl.SameClaim(d, c)), all(want, want))
			equal[want]++
		}
		if t.Failed() {
			return
		}
	}
	if equal[true] < 1000 || equal[false] < 1000 {
		t.Errorf("there were too few claims of one kind: %v", equal)
	}
}
