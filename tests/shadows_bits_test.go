package tests

import (
	"testing"

	"loop.example/g01249/impl"
)

func TestLampsToTheLastBit(t *testing.T) {
	t.Parallel()
	m, found := newMaker(), codesFound{}
	kinds := map[bool]int{}
	for range rounds {
		l, x, p := m.lamp(), m.groundPlane(), m.point()
		if m.Intn(2) == 0 {
			p = m.pointWithin(4)
		}
		args := row(l, x, p)
		valid := wantValidLamp(l)
		kinds[valid]++
		same(t, "ValidLamp "+args, all(impl.ValidLamp(l)), all(valid))
		found.compare(t, "TowardsLamp", args, all(impl.TowardsLamp(l, p)), two(wantTowards(l, p)))
		found.compare(t, "ShadowOfPoint", args, all(impl.ShadowOfPoint(l, x, p)), two(wantShadow(l, x, p)))
		if t.Failed() {
			return
		}
	}
	if kinds[true] < 100 || kinds[false] < 100 {
		t.Errorf("there were %d valid lamps, and %d that are not", kinds[true], kinds[false])
	}
	found.check(t, map[string][]int64{
		"TowardsLamp":   {codeOK, codeInvalid},
		"ShadowOfPoint": {codeOK, codeInvalid, codeState, codeNotFound},
	})
}

func TestPlacesToTheLastBit(t *testing.T) {
	t.Parallel()
	m, found := newMaker(), codesFound{}
	sizes := map[int]int{}
	for range rounds {
		x, p, at, list := m.groundPlane(), m.point(), m.place(), m.places()
		args := row(x, p, at)
		found.compare(t, "BasisOf", args, all(impl.BasisOf(x)), wantBasis(x))
		found.compare(t, "PlaceOf", args, all(impl.PlaceOf(x, p)), two(wantPlace(x, p)))
		found.compare(t, "FromPlane", args, all(impl.FromPlane(x, at)), two(wantFromPlane(x, at)))
		hull, code := impl.HullOf(list)
		found.compare(t, "HullOf", row(list), all(hull, code), two(wantHull(list)))
		found.compare(t, "AreaOfLoop", row(list), all(impl.AreaOfLoop(list)), two(wantLoopArea(list)))
		sizes[len(hull)]++
		if t.Failed() {
			return
		}
	}
	for n := 1; n < 6; n++ {
		if sizes[n] < 100 {
			t.Errorf("there were only %d loops of %d places", sizes[n], n)
		}
	}
	found.check(t, map[string][]int64{
		"BasisOf": {codeOK, codeInvalid}, "PlaceOf": {codeOK, codeInvalid}, "FromPlane": {codeOK, codeInvalid, codeRange},
		"HullOf": {codeOK, codeRange}, "AreaOfLoop": {codeOK, codeRange},
	})
}

func TestShadowsOfSolidsToTheLastBit(t *testing.T) {
	t.Parallel()
	m, found := newMaker(), codesFound{}
	for range rounds / 2 {
		l, x, s, face := m.validLamp(), m.groundPlane(), m.solid(), m.anyFace()
		switch m.Intn(8) {
		case 0:
			l = m.lamp()
		case 1, 2, 3:
			// The plane lies behind the solid, seen from the lamp.
			s = m.convexSolid()
			l.At = sums(s.Corners[0], impl.Point{m.within(5), m.within(5), 9})
			x = level(-9)
		}
		if m.Intn(4) == 0 {
			face = int64(m.Intn(4))
		}
		args := row(l, x, s, face)
		found.compare(t, "ShadowOfFace", args, all(impl.ShadowOfFace(l, x, s, face)), two(wantShadowOfFace(l, x, s, face)))
		found.compare(t, "ShadowOutline", args, all(impl.ShadowOutline(l, x, s)), two(wantShadowOutline(l, x, s)))
		found.compare(t, "ShadowArea", args, all(impl.ShadowArea(l, x, s)), two(wantShadowArea(l, x, s)))
		if t.Failed() {
			return
		}
	}
	codes := []int64{codeOK, codeInvalid, codeState, codeNotFound}
	found.check(t, map[string][]int64{
		"ShadowOfFace": append(codes, codeRange), "ShadowOutline": codes, "ShadowArea": codes,
	})
}

func TestWhatIsLitToTheLastBit(t *testing.T) {
	t.Parallel()
	m, found := newMaker(), codesFound{}
	kinds := map[string]int{}
	for range rounds / 4 {
		l, list := m.validLamp(), m.fewSolids()
		if m.Intn(12) == 0 {
			l = m.lamp()
		}
		p := m.placeBeside(list)
		if m.Intn(2) == 0 {
			p = m.placeBehind(l, list)
		}
		args := row(l, list, p)
		lit, code := impl.IsLit(l, list, p)
		found.compare(t, "IsLit", args, all(lit, code), two(wantIsLit(l, list, p)))
		found.compare(t, "WhatHides", args, all(impl.WhatHides(l, list, p)), two(wantWhatHides(l, list, p)))
		if t.Failed() {
			return
		}
		kinds[row(l.Sun, lit, code)]++
	}
	for _, kind := range []string{"false false 0", "false true 0", "true false 0", "true true 0"} {
		if kinds[kind] < 100 {
			t.Errorf("there were only %d points of the kind %s", kinds[kind], kind)
		}
	}
	codes := []int64{codeOK, codeInvalid, codeRange, codeState}
	found.check(t, map[string][]int64{"IsLit": codes, "WhatHides": append(codes, codeNotFound)})
}

func TestLightToTheLastBit(t *testing.T) {
	t.Parallel()
	m, found := newMaker(), codesFound{}
	several, ahead := 0, 0
	for range rounds / 4 {
		lamps, list, n := m.lamps(), m.fewSolids(), m.pointWithin(2)
		p := m.placeBeside(list)
		switch m.Intn(12) {
		case 0:
			n = m.point()
		case 1:
			if len(lamps) > 0 {
				p = sums(lamps[m.Intn(len(lamps))].At, m.pointWithin(0.001))
			}
		case 2, 3:
			if len(lamps) > 0 {
				p = m.placeBehind(lamps[m.Intn(len(lamps))], list)
			}
		}
		solid, face := int64(m.Intn(len(list)+1)), m.anyFace()
		if m.Intn(20) == 0 {
			solid = m.anyFace()
		}
		args := row(lamps, list, p, n, solid, face)
		light, code := impl.LightAt(lamps, list, p, n)
		found.compare(t, "LightAt", args, all(light, code), two(wantLight(lamps, list, p, n)))
		ofFace, faceCode := impl.FaceLight(lamps, list, solid, face)
		found.compare(t, "FaceLight", args, all(ofFace, faceCode), two(wantFaceLight(lamps, list, solid, face)))
		if t.Failed() {
			return
		}
		if faceCode == impl.ErrRange && len(lamps) <= impl.MaxLamps && len(list) <= impl.MaxSolids && !allWantConvex(list) {
			ahead++
		}
		if len(lamps) > 2 && light > 0 {
			several++
		}
	}
	if several < 100 {
		t.Errorf("only %d points had light of several lamps", several)
	}
	if ahead < 100 {
		t.Errorf("only %d faces were not there where a solid is not convex", ahead)
	}
	codes := []int64{codeOK, codeInvalid, codeRange, codeState}
	found.check(t, map[string][]int64{"LightAt": codes, "FaceLight": codes})
}

func TestPartsOfTrianglesToTheLastBit(t *testing.T) {
	t.Parallel()
	m, found := newMaker(), codesFound{}
	kinds := map[string]int{}
	ahead := 0
	for range rounds / 20 {
		lamps, list, parts := m.lamps(), m.fewSolids(), m.parts()
		a, b, c, n := m.placeBeside(list), m.pointWithin(6), m.pointWithin(6), m.pointWithin(2)
		switch m.Intn(12) {
		case 0:
			n = m.point()
		case 1:
			if len(lamps) > 0 {
				a, b = lamps[0].At, lamps[0].At
				c = a
			}
		}
		l := m.lamp()
		args := row(l, lamps, list, a, b, c, n, parts)
		share, code := impl.LitShare(l, list, a, b, c, parts)
		found.compare(t, "LitShare", args, all(share, code), two(wantLitShare(l, list, a, b, c, parts)))
		found.compare(t, "BrightestPart", args,
			all(impl.BrightestPart(lamps, list, a, b, c, n, parts)), three(wantBrightest(lamps, list, a, b, c, n, parts)))
		if t.Failed() {
			return
		}
		if code == impl.OK {
			kinds[row(share > 0, share < 1)]++
		}
		if code == impl.ErrRange && len(list) <= impl.MaxSolids && !allWantConvex(list) {
			ahead++
		}
	}
	if ahead < 5 {
		t.Errorf("only %d times were there no such parts where a solid is not convex", ahead)
	}
	for _, kind := range []string{"false true", "true true", "true false"} {
		if kinds[kind] < 10 {
			t.Errorf("there were only %d triangles of the kind %s", kinds[kind], kind)
		}
	}
	codes := []int64{codeOK, codeInvalid, codeRange, codeState}
	found.check(t, map[string][]int64{"LitShare": codes, "BrightestPart": codes})
}

func TestLampTextsToTheLastBit(t *testing.T) {
	t.Parallel()
	m := newMaker()
	for range rounds {
		l := m.lamp()
		text := lampText(l)
		if wantValidLamp(l) {
			same(t, "LampText "+row(l), all(impl.LampText(l)), all(text))
			same(t, "ReadLamp "+text, all(impl.ReadLamp(text)), all(l, codeOK))
		} else {
			same(t, "LampText "+row(l), all(impl.LampText(l)), all(""))
			same(t, "ReadLamp "+text, all(impl.ReadLamp(text)), all(impl.Lamp{}, codeSyntax))
		}
		if t.Failed() {
			return
		}
	}
}
