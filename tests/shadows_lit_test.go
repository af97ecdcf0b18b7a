package tests

import (
	"math"
	"slices"
	"testing"

	"loop.example/g01249/impl"
)

// slab is a box over the middle of the ground, between two heights.
func slab(low, high float32) impl.Solid {
	return box(impl.Point{-1, -1, low}, impl.Point{1, 1, high})
}

func TestIsLit(t *testing.T) {
	// The way from 0, 0, 0 begins at 0, 0, 1, and ends, with the share 1, at 0, 0, 257.
	lamp, sun := lampAt(0, 0, 256), sunAt(0, 0, 256)
	for name, c := range map[string]struct {
		s           impl.Solid
		ofLamp, sun bool
	}{
		"between":           {slab(2, 3), false, false},
		"behind":            {slab(-3, -1), true, true},
		"around the point":  {slab(-1, 0.5), true, true},
		"too near":          {slab(0.25, 0.5), true, true},
		"ends at the start": {slab(0.5, 1), true, true},
		"around the start":  {slab(0.5, 5), true, true},
		"just around it":    {slab(below(1), 5), true, true},
		"from the start":    {slab(1, 5), false, false},
		"just ahead of it":  {slab(above(1), 5), false, false},
		"before the lamp":   {slab(250, 255), false, false},
		"around the lamp":   {slab(200, 300), false, false},
		"at the lamp":       {slab(256, 300), false, false},
		"just at the end":   {slab(257, 300), true, false},
		"ahead of the end":  {slab(below(257), 300), false, false},
		"behind the lamp":   {slab(260, 300), true, false},
		"far behind":        {slab(impl.MaxSize/2, impl.MaxSize), true, false},
		// It passes by a side, or runs along it.
		"aside":         {moved(slab(2, 3), impl.Point{5, 0, 0}), true, true},
		"along a side":  {moved(slab(2, 3), impl.Point{1, 0, 0}), false, false},
		"along an edge": {moved(slab(2, 3), impl.Point{1, -1, 0}), false, false},
		"beside it":     {box(impl.Point{tiniest, -1, 2}, impl.Point{1, 1, 3}), true, true},
		"beside it, y":  {box(impl.Point{-1, -1, 2}, impl.Point{1, -tiniest, 3}), true, true},
	} {
		p := impl.Point{}
		same(t, name+" of a lamp", all(impl.IsLit(lamp, []impl.Solid{c.s}, p)), all(c.ofLamp, codeOK))
		same(t, name+" of a sun", all(impl.IsLit(sun, []impl.Solid{c.s}, p)), all(c.sun, codeOK))
		// How strong a lamp is does not matter.
		lamp.Strong, sun.Strong = impl.MaxStrong-lamp.Strong, impl.MaxStrong-sun.Strong
	}
}

func TestIsLitNearAndIn(t *testing.T) {
	above4, middle := lampAt(0, 0, 4), impl.Point{0, 0, 0}
	for name, c := range map[string]struct {
		l    impl.Lamp
		s    impl.Solid
		p    impl.Point
		want bool
	}{
		"on the upper face":         {above4, slab(-1, 0), middle, true},
		"on the lower face":         {above4, slab(0, 1), middle, true},
		"on a side":                 {lampAt(5, 0, 0), slab(-1, 1), impl.Point{1, 0, 0}, true},
		"on the other side":         {lampAt(5, 0, 0), moved(slab(-1, 1), impl.Point{2, 0, 0}), impl.Point{1, 0, 0}, true},
		"through it, from a side":   {lampAt(5, 0, 0), slab(-1, 1), impl.Point{-1.5, 0, 0}, false},
		"inside":                    {above4, slab(-2, 2), middle, true},
		"inside, with the lamp":     {above4, slab(-5, 5), middle, true},
		"below it":                  {above4, slab(0.5, 1), middle, false},
		"below the lamp in it":      {above4, slab(3, 5), middle, false},
		"just at the lamp":          {above4, slab(1, 2), impl.Point{0, 0, 4}, true},
		"just at the lamp, inside":  {above4, slab(3, 5), impl.Point{0, 0, 4}, true},
		"at the lamp, along a face": {above4, slab(3, 4), impl.Point{0, 0, 4}, true},
		"nearly at the lamp":        {above4, slab(4+0x1p-20, 5), impl.Point{0, 0, 4 - 0x1p-20}, true},
		// A sun's direction tells where the way begins: a longer one begins farther away.
		"a short direction": {sunAt(0, 0, 1.0/1024), slab(0.001, 0.003), middle, false},
		"a long direction":  {sunAt(0, 0, 1), slab(0.001, 0.003), middle, true},
		"opposite":          {sunAt(0, 0, -1), slab(1, 2), middle, true},
		"from beneath":      {sunAt(0, 0, -1), slab(-2, -1), middle, false},
		// Far away the numbers have few bits: it goes nowhere where it hardly moves.
		"nowhere": {sunAt(0, 0, 1.0/1024), box(impl.Point{-1, -1, impl.MaxSize - 1}, impl.Point{1, 1, impl.MaxSize}), impl.Point{0, 0, impl.MaxSize - 2}, true},
		"onwards": {sunAt(0, 0, 16), box(impl.Point{-1, -1, impl.MaxSize - 1}, impl.Point{1, 1, impl.MaxSize}), impl.Point{0, 0, impl.MaxSize - 2}, false},
		// Both ends of the way need not be valid points.
		"beyond": {sunAt(impl.MaxSize, 0, 0), slab(-1, 1), impl.Point{impl.MaxSize, 0, 0}, true},
		"across": {lampAt(impl.MaxSize, 0, 0), slab(-1, 1), impl.Point{-impl.MaxSize, 0, 0}, false},
	} {
		same(t, name, all(impl.IsLit(c.l, []impl.Solid{c.s}, c.p)), all(c.want, codeOK))
	}
	for _, l := range []impl.Lamp{exampleLamp, exampleSun} {
		same(t, "no solids", all(impl.IsLit(l, nil, middle)), all(true, codeOK))
		same(t, "no solids", all(impl.IsLit(l, []impl.Solid{}, middle)), all(true, codeOK))
		same(t, "no solids", all(impl.WhatHides(l, nil, middle)), all(int64(0), codeNotFound))
	}
}

func TestASunIsHiddenAtAnyShare(t *testing.T) {
	// The share is infinite: a solid without any height, to which the way hardly rises.
	s, l := flat(1), sunAt(1, 0, tiniest)
	_, code := impl.FirstHit(s, impl.Point{}, l.At)
	same(t, "FirstHit", all(code), all(codeState))
	same(t, "a sun", all(impl.IsLit(l, []impl.Solid{s}, impl.Point{})), all(false, codeOK))
	l.Sun = false
	same(t, "a lamp", all(impl.IsLit(l, []impl.Solid{s}, impl.Point{})), all(true, codeOK))
}

func TestWhatHides(t *testing.T) {
	l, p := lampAt(0, 0, 64), impl.Point{}
	aside := moved(slab(2, 3), impl.Point{9, 0, 0})
	for name, c := range map[string]struct {
		list []impl.Solid
		want int64
		code int64
	}{
		"one":              {[]impl.Solid{slab(2, 3)}, 0, codeOK},
		"none":             {[]impl.Solid{aside, slab(-2, -1), slab(100, 200)}, 0, codeNotFound},
		"the last one":     {[]impl.Solid{aside, aside, aside, aside, aside, slab(2, 3)}, 5, codeOK},
		"the first one":    {[]impl.Solid{slab(30, 31), slab(2, 3), slab(5, 6)}, 0, codeOK},
		"not the nearest":  {[]impl.Solid{aside, slab(30, 31), slab(2, 3)}, 1, codeOK},
		"the second one":   {[]impl.Solid{slab(100, 200), slab(2, 3), slab(2, 3), slab(2, 3), slab(2, 3), slab(2, 3)}, 1, codeOK},
		"all are the same": {slices.Repeat([]impl.Solid{slab(2, 3)}, 6), 0, codeOK},
	} {
		for range 100 {
			same(t, name, all(impl.WhatHides(l, c.list, p)), all(c.want, c.code))
			same(t, name, all(impl.IsLit(l, c.list, p)), all(c.code == codeNotFound, codeOK))
		}
	}
}

func TestLightAt(t *testing.T) {
	up := impl.Point{0, 0, 1}
	strong := func(l impl.Lamp, strong float32) impl.Lamp {
		l.Strong = strong
		return l
	}
	for name, c := range map[string]struct {
		lamps []impl.Lamp
		list  []impl.Solid
		n     impl.Point
		want  float32
	}{
		"no lamp":       {nil, nil, up, 0},
		"no lamps":      {[]impl.Lamp{}, []impl.Solid{slab(1, 2)}, up, 0},
		"a lamp":        {[]impl.Lamp{exampleLamp}, nil, up, 0.5},
		"twice so far":  {[]impl.Lamp{strong(lampAt(0, 0, 8), 8)}, nil, up, 0.125},
		"aslant":        {[]impl.Lamp{strong(lampAt(4, 0, 3), 8)}, nil, up, 8 * 0.6 / 25},
		"looking aside": {[]impl.Lamp{exampleLamp}, nil, impl.Point{3, 0, 4}, 0.4},
		// n need not be a unit.
		"a long n":  {[]impl.Lamp{exampleLamp}, nil, impl.Point{0, 0, impl.MaxSize}, 0.5},
		"a short n": {[]impl.Lamp{exampleLamp}, nil, impl.Point{0, 0, limit}, 0.5},
		// It looks away, or just aside.
		"away":       {[]impl.Lamp{exampleLamp}, nil, impl.Point{0, 0, -1}, 0},
		"aside":      {[]impl.Lamp{exampleLamp}, nil, impl.Point{0, 1, 0}, 0},
		"hardly":     {[]impl.Lamp{strong(lampAt(0, 0, 1), 1)}, nil, impl.Point{1, 0, 0x1p-60}, 0x1p-60},
		"just away":  {[]impl.Lamp{exampleLamp}, nil, impl.Point{1, 0, -0x1p-60}, 0},
		"a sun away": {[]impl.Lamp{exampleSun}, nil, impl.Point{0, 0, -1}, 0},
		// The light of a sun is the same everywhere, and however long its direction is.
		"a sun":       {[]impl.Lamp{strong(sunAt(0, 0, 1), 8)}, nil, up, 8},
		"a longer At": {[]impl.Lamp{strong(sunAt(0, 0, impl.MaxSize), 8)}, nil, up, 8},
		"the least":   {[]impl.Lamp{strong(sunAt(0, 0, 1.0/1024), 8)}, nil, up, 8},
		"a low sun":   {[]impl.Lamp{strong(sunAt(0, 4, 3), 5)}, nil, up, 3},
		// How strong lamps may be at least, and at most.
		"0":        {[]impl.Lamp{strong(exampleLamp, 0), strong(exampleSun, 0)}, nil, up, 0},
		"-0":       {[]impl.Lamp{strong(exampleLamp, minusZero), strong(exampleSun, minusZero)}, nil, up, 0},
		"greatest": {[]impl.Lamp{strong(exampleLamp, 1000)}, nil, up, 62.5},
		// Just not too near: f is just as great as it has to be.
		"near": {[]impl.Lamp{strong(lampAt(0, 0, 1.0/1024), 1000)}, nil, up, 1000 * 0x1p20},
		// Several lamps: those that are hidden, or stand behind, do not count; their sum is made in order.
		"two":        {[]impl.Lamp{exampleLamp, strong(sunAt(0, 0, 1), 2)}, nil, up, 2.5},
		"six":        {slices.Repeat([]impl.Lamp{exampleLamp}, 6), nil, up, 3},
		"some":       {[]impl.Lamp{exampleLamp, strong(lampAt(0, 0, -4), 8), strong(lampAt(4, 0, 0), 8), strong(sunAt(0, 0, 1), 2)}, nil, up, 2.5},
		"one hidden": {[]impl.Lamp{exampleLamp, strong(sunAt(4, 0, 3), 5)}, []impl.Solid{slab(1, 2)}, up, 3},
		"all hidden": {[]impl.Lamp{exampleLamp, strong(sunAt(0, 0, 1), 2)}, []impl.Solid{slab(100, 200), slab(1, 2)}, up, 0},
		"only suns":  {[]impl.Lamp{exampleLamp, strong(sunAt(0, 0, 1), 2)}, []impl.Solid{slab(100, 200)}, up, 0.5},
		"little last": {[]impl.Lamp{sunAt(0, 0, 1), strong(sunAt(0, 0, 1), 0x1p-24), strong(sunAt(0, 0, 1), 0x1p-24)},
			nil, up, 1},
		"little first": {[]impl.Lamp{strong(sunAt(0, 0, 1), 0x1p-24), strong(sunAt(0, 0, 1), 0x1p-24), sunAt(0, 0, 1)},
			nil, up, 1 + 0x1p-23},
	} {
		same(t, name, all(impl.LightAt(c.lamps, c.list, impl.Point{}, c.n)), all(c.want, codeOK))
	}
}

func TestLightAtErrors(t *testing.T) {
	up := impl.Point{0, 0, 1}
	none := all(float32(0), codeState)
	behind := lampAt(0, 0, 0)
	// UnitOf n is asked also where there is no lamp.
	for _, n := range []impl.Point{{}, {minusZero, 0, 0}, {0, 0, below(limit)}, {tiniest, tiniest, 0}} {
		for _, lamps := range [][]impl.Lamp{nil, {exampleLamp}, {exampleSun}} {
			same(t, "LightAt with "+row(n), all(impl.LightAt(lamps, nil, impl.Point{}, n)), none)
			same(t, "BrightestPart with "+row(n), all(impl.BrightestPart(lamps, nil, up, up, up, n, 1)), all(impl.Point{}, float32(0), codeState))
		}
	}
	// A lamp is too near, wherever it stands in the list, and whether or not it counts.
	p := impl.Point{1, 2, 3}
	for name, l := range map[string]impl.Lamp{
		"just there":      {At: p, Strong: 1},
		"nearly":          lampAt(1, 2, 3+0x1p-11),
		"beneath":         lampAt(1, 2, 3-0x1p-11),
		"without a light": {At: p},
	} {
		for _, lamps := range [][]impl.Lamp{{l}, {exampleLamp, l}, {l, exampleSun}, {exampleLamp, exampleSun, l}} {
			same(t, name, all(impl.LightAt(lamps, nil, p, up)), none)
			same(t, name+", in a solid", all(impl.LightAt(lamps, []impl.Solid{moved(slab(-1, 1), p)}, p, up)), none)
		}
	}
	same(t, "just too near", all(impl.LightAt([]impl.Lamp{lampAt(0, 0, below(1.0/1024))}, nil, impl.Point{}, up)), none)
	same(t, "just too near, away", all(impl.LightAt([]impl.Lamp{lampAt(0, 0, -below(1.0/1024))}, nil, impl.Point{}, up)), none)
	same(t, "away, not too near", all(impl.LightAt([]impl.Lamp{lampAt(0, 0, -1.0/1024)}, nil, impl.Point{}, up)), all(float32(0), codeOK))
	// A sun may have its direction where the point is.
	same(t, "a sun", all(impl.LightAt([]impl.Lamp{sunAt(0, 0, 2)}, nil, impl.Point{0, 0, 2}, up)), all(float32(1), codeOK))
	same(t, "a lamp there", all(impl.LightAt([]impl.Lamp{sunAt(0, 0, 2), behind}, nil, impl.Point{0, 0, 2}, up)), all(float32(1), codeOK))
}

func TestFaceLight(t *testing.T) {
	lamps, list := []impl.Lamp{exampleLamp}, []impl.Solid{exampleBox}
	// Only the upper face looks to the lamp; the middle is at 0, 0, 2.
	for face, want := range []float32{0, 0, 0, 0, 0, 2} {
		same(t, "FaceLight "+row(int64(face)), all(impl.FaceLight(lamps, list, 0, int64(face))), all(want, codeOK))
	}
	side := []impl.Lamp{{At: impl.Point{5, 0, 1.5}, Strong: 32}}
	for face, want := range []float32{0, 2, 0, 0, 0, 0} {
		same(t, "FaceLight aside "+row(int64(face)), all(impl.FaceLight(side, list, 0, int64(face))), all(want, codeOK))
	}
	// Others may hide a face, or lie behind the lamp, and it may be that of any solid.
	more := []impl.Solid{exampleBox, slab(3, 3.5), slab(5, 6)}
	same(t, "hidden", all(impl.FaceLight(lamps, more, 0, 5)), all(float32(0), codeOK))
	same(t, "hiding", all(impl.FaceLight(lamps, more, 1, 5)), all(float32(32), codeOK))
	same(t, "above the lamp", all(impl.FaceLight(lamps, more, 2, 4)), all(float32(8), codeOK))
	same(t, "no lamps", all(impl.FaceLight(nil, more, 2, 4)), all(float32(0), codeOK))
	// The middle is that of the corners of the loop, and not of others.
	tent := wantTent(impl.Point{}, impl.Point{3, 3, 3})
	middle := impl.Point{1.5, 0.5, 1}
	x, _ := wantFacePlane(tent, 1)
	far := []impl.Lamp{{At: sums(middle, wantScale(x.N, 2)), Strong: 8}}
	light, code := impl.FaceLight(far, []impl.Solid{tent}, 0, 1)
	same(t, "a tent", all(near(light-2, 2), code), all(true, codeOK))
}

func TestFaceLightErrors(t *testing.T) {
	lamps, list := []impl.Lamp{exampleLamp}, []impl.Solid{exampleBox, tetrahedron()}
	none := all(float32(0), codeRange)
	for _, i := range []int64{-1, math.MinInt64, math.MaxInt64, 1 << 32, 1 << 16, 6, 7} {
		same(t, "no such face", all(impl.FaceLight(lamps, list, 0, i)), none)
		same(t, "no such solid", all(impl.FaceLight(lamps, list, i, 0)), none)
		same(t, "neither", all(impl.FaceLight(lamps, list, i, i)), none)
	}
	// How many faces there are depends on the solid.
	same(t, "the last face", all(impl.FaceLight(lamps, list, 1, 3)), all(float32(0), codeOK))
	same(t, "face 4 of a tetrahedron", all(impl.FaceLight(lamps, list, 1, 4)), none)
	same(t, "no third solid", all(impl.FaceLight(lamps, list, 2, 0)), none)
	same(t, "no solids", all(impl.FaceLight(lamps, nil, 0, 0)), none)
	same(t, "nothing", all(impl.FaceLight(nil, nil, 0, 0)), none)
	// A lamp just at the middle of a face; at that of another one it is no error.
	at := []impl.Lamp{exampleSun, lampAt(0, 0, 2)}
	same(t, "at the middle", all(impl.FaceLight(at, list, 0, 5)), all(float32(0), codeState))
	_, code := impl.FaceLight(at, list, 0, 4)
	same(t, "at another middle", all(code), all(codeOK))
}

func TestFaceLightOfSolidsThatAreNotConvex(t *testing.T) {
	lamps := []impl.Lamp{exampleLamp}
	// The box has 6 faces, and the other one 8: which faces there are does not depend on which solid is not convex.
	for _, list := range [][]impl.Solid{{exampleBox, angle()}, {angle(), exampleBox}} {
		for solid, s := range list {
			faces := int64(len(s.Faces))
			for face := range faces {
				same(t, "a face", all(impl.FaceLight(lamps, list, int64(solid), face)), all(float32(0), codeState))
			}
			for _, face := range []int64{-1, faces, faces + 1, 99, math.MinInt64, math.MaxInt64, 1 << 32, 1 << 16} {
				same(t, "no such face", all(impl.FaceLight(lamps, list, int64(solid), face)), all(float32(0), codeRange))
			}
		}
		for _, solid := range []int64{-1, 2, 3, 99, math.MinInt64, math.MaxInt64, 1 << 32, 1 << 16} {
			same(t, "no such solid", all(impl.FaceLight(lamps, list, solid, 0)), all(float32(0), codeRange))
		}
	}
}

func TestLitShare(t *testing.T) {
	// With 2 parts the points are 0.125, 0.125 and 0.125, 0.625 and 0.625, 0.125.
	a, b, c := impl.Point{}, impl.Point{1, 0, 0}, impl.Point{0, 1, 0}
	over := func(x0, y0, x1, y1 float32) impl.Solid { return box(impl.Point{x0, y0, 1}, impl.Point{x1, y1, 2}) }
	sun := sunAt(0, 0, 1)
	for name, e := range map[string]struct {
		list  []impl.Solid
		parts int64
		want  float32
	}{
		"no solids":         {nil, 2, 1},
		"everywhere":        {[]impl.Solid{over(2, 2, 3, 3)}, 2, 1},
		"nowhere":           {[]impl.Solid{over(-1, -1, 2, 2)}, 2, 0},
		"but the first":     {[]impl.Solid{over(0, 0, 0.5, 0.5)}, 2, 2.0 / 3},
		"but the second":    {[]impl.Solid{over(0, 0.5, 0.5, 1)}, 2, 2.0 / 3},
		"but the third":     {[]impl.Solid{over(0.5, 0, 1, 0.5)}, 2, 2.0 / 3},
		"the first alone":   {[]impl.Solid{over(0.5, 0, 1, 0.5), over(0, 0.5, 0.5, 1)}, 2, 1.0 / 3},
		"none left":         {[]impl.Solid{over(0.5, 0, 1, 0.5), over(0, 0.5, 0.5, 1), over(0, 0, 0.5, 0.5)}, 2, 0},
		"aside of them":     {[]impl.Solid{over(0.13, 0, 0.62, 2)}, 2, 1},
		"one part":          {[]impl.Solid{over(0, 0, 0.3, 0.3)}, 1, 0},
		"one part, lit":     {[]impl.Solid{over(0.26, 0, 0.3, 0.3)}, 1, 1},
		"16, all":           {nil, 16, 1},
		"16, one is hidden": {[]impl.Solid{over(0, 0, 0.02, 0.02)}, 16, 135.0 / 136},
		"16, a row":         {[]impl.Solid{over(0, 0, 0.02, 2)}, 16, 120.0 / 136},
		"16, the last ones": {[]impl.Solid{over(0.94, 0, 1, 2), over(0, 0.94, 0.02, 1)}, 16, 134.0 / 136},
		"16, a line":        {[]impl.Solid{over(0, 0, 2, 0.02)}, 16, 120.0 / 136},
	} {
		same(t, name, all(impl.LitShare(sun, e.list, a, b, c, e.parts)), all(e.want, codeOK))
	}
	// a, b and c may be just one point.
	same(t, "a point", all(impl.LitShare(sun, []impl.Solid{over(0, 0, 1, 1)}, a, a, a, 16)), all(float32(0), codeOK))
	same(t, "a point at a lamp", all(impl.LitShare(lampAt(0, 0, 0), []impl.Solid{over(0, 0, 1, 1)}, a, a, a, 3)), all(float32(1), codeOK))
}

func TestBrightestPart(t *testing.T) {
	a, b, c, up := impl.Point{}, impl.Point{1, 0, 0}, impl.Point{0, 1, 0}, impl.Point{0, 0, 1}
	first, second, third := impl.Point{0.125, 0.125, 0}, impl.Point{0.125, 0.625, 0}, impl.Point{0.625, 0.125, 0}
	sun := []impl.Lamp{sunAt(0, 0, 1)}
	over := func(x0, y0, x1, y1 float32) impl.Solid { return box(impl.Point{x0, y0, 1}, impl.Point{x1, y1, 2}) }
	for name, e := range map[string]struct {
		lamps []impl.Lamp
		list  []impl.Solid
		n     impl.Point
		parts int64
		want  impl.Point
		light float32
	}{
		"no lamps":      {nil, nil, up, 2, first, 0},
		"looks away":    {sun, nil, impl.Point{0, 0, -1}, 2, first, 0},
		"all the same":  {sun, nil, up, 2, first, 1},
		"first hidden":  {sun, []impl.Solid{over(0, 0, 0.5, 0.5)}, up, 2, second, 1},
		"second hidden": {sun, []impl.Solid{over(0, 0.5, 0.5, 1)}, up, 2, first, 1},
		"third left":    {sun, []impl.Solid{over(0, 0, 0.5, 0.5), over(0, 0.5, 0.5, 1)}, up, 2, third, 1},
		"all hidden":    {sun, []impl.Solid{over(0, 0, 1, 1)}, up, 2, first, 0},
		"over second":   {[]impl.Lamp{lampAt(0.125, 0.625, 1)}, nil, up, 2, second, 1},
		"over third":    {[]impl.Lamp{lampAt(0.625, 0.125, 0.5)}, nil, up, 2, third, 4},
		"one part":      {[]impl.Lamp{lampAt(0.25, 0.25, 0.5)}, nil, up, 1, impl.Point{0.25, 0.25, 0}, 4},
		"over the last": {[]impl.Lamp{lampAt(0.953125, 0.015625, 0.5)}, nil, up, 16, impl.Point{0.953125, 0.015625, 0}, 4},
		"two of them":   {[]impl.Lamp{lampAt(0.625, 0.125, 1), lampAt(0.625, 0.125, 2)}, nil, up, 2, third, 1.25},
	} {
		p, light, code := impl.BrightestPart(e.lamps, e.list, a, b, c, e.n, e.parts)
		same(t, name, all(p, light, code), all(e.want, e.light, codeOK))
	}
	// A lamp is too near to a later point: no light is told then, and of a triangle without such a point it is.
	at := []impl.Lamp{lampAt(0.625, 0.125, 0)}
	same(t, "too near", all(impl.BrightestPart(at, nil, a, b, c, up, 2)), all(impl.Point{}, float32(0), codeState))
	_, _, code := impl.BrightestPart(at, nil, a, b, c, up, 1)
	same(t, "not too near", all(code), all(codeOK))
}

func TestPartsThatAreNone(t *testing.T) {
	a, b, c, up := impl.Point{}, impl.Point{1, 0, 0}, impl.Point{0, 1, 0}, impl.Point{0, 0, 1}
	for _, parts := range []int64{0, -1, 17, 18, 100, math.MinInt64, math.MaxInt64, 1<<32 + 1, 1<<16 + 1, 1<<8 + 1} {
		// ErrRange is ahead of ErrState: of a solid that is not convex, and of a point without light.
		for _, list := range [][]impl.Solid{nil, {exampleBox}, {angle()}, {exampleBox, notched()}} {
			same(t, "LitShare", all(impl.LitShare(exampleLamp, list, a, b, c, parts)), all(float32(0), codeRange))
			same(t, "BrightestPart", all(impl.BrightestPart([]impl.Lamp{exampleLamp}, list, a, b, c, up, parts)), all(impl.Point{}, float32(0), codeRange))
			same(t, "BrightestPart", all(impl.BrightestPart(nil, list, a, b, c, a, parts)), all(impl.Point{}, float32(0), codeRange))
		}
	}
	for parts := int64(1); parts <= 16; parts++ {
		same(t, "LitShare", all(impl.LitShare(exampleLamp, nil, a, b, c, parts)), all(float32(1), codeOK))
		_, _, code := impl.BrightestPart([]impl.Lamp{exampleLamp}, nil, a, b, c, up, parts)
		same(t, "BrightestPart", all(code), all(codeOK))
		list := []impl.Solid{angle()}
		same(t, "LitShare", all(impl.LitShare(exampleLamp, list, a, b, c, parts)), all(float32(0), codeState))
		same(t, "BrightestPart", all(impl.BrightestPart([]impl.Lamp{exampleLamp}, list, a, b, c, up, parts)), all(impl.Point{}, float32(0), codeState))
	}
}

// roomCall is a function of lamps, solids and points; a function of one lamp has the first one.
type roomCall struct {
	name string
	run  func(lamps []impl.Lamp, list []impl.Solid, p [4]impl.Point, other int64) []any
	none []any
	// lamps and points are how many of them it has at most, and other tells whether it has an index or a number of parts.
	lamps, points int
	other         bool
}

func roomCalls() []roomCall {
	type (
		lamps  = []impl.Lamp
		solids = []impl.Solid
		points = [4]impl.Point
	)
	return []roomCall{
		{"IsLit", func(l lamps, list solids, p points, _ int64) []any { return all(impl.IsLit(l[0], list, p[0])) }, all(false), 1, 1, false},
		{"WhatHides", func(l lamps, list solids, p points, _ int64) []any { return all(impl.WhatHides(l[0], list, p[0])) }, all(int64(0)), 1, 1, false},
		{"LightAt", func(l lamps, list solids, p points, _ int64) []any { return all(impl.LightAt(l, list, p[0], p[1])) }, all(float32(0)), 6, 2, false},
		{"FaceLight of a solid", func(l lamps, list solids, _ points, i int64) []any { return all(impl.FaceLight(l, list, i-1, 2)) }, all(float32(0)), 6, 0, true},
		{"FaceLight of a face", func(l lamps, list solids, _ points, i int64) []any { return all(impl.FaceLight(l, list, 0, i)) }, all(float32(0)), 6, 0, true},
		{"LitShare", func(l lamps, list solids, p points, i int64) []any {
			return all(impl.LitShare(l[0], list, p[0], p[1], p[2], i))
		}, all(float32(0)), 1, 3, true},
		{"BrightestPart", func(l lamps, list solids, p points, i int64) []any {
			return all(impl.BrightestPart(l, list, p[0], p[1], p[2], p[3], i))
		}, all(impl.Point{}, float32(0)), 6, 4, true},
	}
}

// goodPoints are points that are not at a lamp, and do not lead nowhere. The first one is hidden by slab(1, 2).
var goodPoints = [4]impl.Point{{0, 0, 0.5}, {1, 0, 0}, {0, 1, 0}, {0, 0, 1}}

func TestRoomsOfWhatIsNotValid(t *testing.T) {
	seven := slices.Repeat([]impl.Solid{angle()}, 7)
	lamps, list := []impl.Lamp{exampleLamp, exampleSun}, []impl.Solid{exampleBox, slab(-2, -1)}
	for _, c := range roomCalls() {
		results := c.run(lamps, list, goodPoints, 1)
		if code := results[len(results)-1]; code != any(codeOK) {
			t.Errorf("%s: got the code %d", c.name, code)
		}
		// ErrInvalid is ahead of all other errors: there are too many solids, they are not convex, and there is no such face or part.
		check := func(what string, lamps []impl.Lamp, list []impl.Solid, p [4]impl.Point) {
			t.Helper()
			for _, other := range []int64{1, -1, 99} {
				same(t, c.name+" "+what, c.run(lamps, list, p, other), append(slices.Clone(c.none), codeInvalid))
			}
		}
		for _, l := range badLamps() {
			check(row(l), []impl.Lamp{l}, list, goodPoints)
			check(row(l), []impl.Lamp{l}, seven, goodPoints)
			if c.lamps > 1 {
				check(row(l), []impl.Lamp{exampleLamp, l}, list, goodPoints)
				check(row(l), append(slices.Repeat(lamps, 4), l), nil, goodPoints)
			}
		}
		for name, s := range badSolids() {
			check(name, lamps, []impl.Solid{s}, goodPoints)
			check(name, lamps, []impl.Solid{exampleBox, angle(), s}, goodPoints)
		}
		check("the last solid", lamps, append(slices.Clone(seven), impl.Solid{}), goodPoints)
		for _, p := range badPoints {
			for i := range c.points {
				points := goodPoints
				points[i] = p
				check(row(points[:]), lamps, list, points)
				check(row(points[:]), lamps, seven, points)
			}
		}
	}
}

func TestRoomsWithTooMany(t *testing.T) {
	sky := moved(cube(), impl.Point{50, 50, 50})
	for _, c := range roomCalls() {
		want := append(slices.Clone(c.none), codeRange)
		six, seven := slices.Repeat([]impl.Solid{sky}, 6), slices.Repeat([]impl.Solid{sky}, 7)
		lamps := slices.Repeat([]impl.Lamp{exampleLamp, exampleSun}, 4)
		// Just as many as there may be.
		results := c.run(lamps[:6], six, goodPoints, 1)
		if code := results[len(results)-1]; code != any(codeOK) && c.name != "WhatHides" || code != any(codeNotFound) && c.name == "WhatHides" {
			t.Errorf("%s of six: got the code %d", c.name, code)
		}
		same(t, c.name+" of seven solids", c.run(lamps[:1], seven, goodPoints, 1), want)
		// ErrRange is ahead of ErrState, whichever solid is not convex.
		seven[0] = angle()
		same(t, c.name+" of seven solids", c.run(lamps[:1], seven, goodPoints, 1), want)
		same(t, c.name+" of eight solids", c.run(lamps[:1], append(seven, angle()), goodPoints, 1), want)
		if c.lamps > 1 {
			same(t, c.name+" of seven lamps", c.run(lamps[:7], six, goodPoints, 1), want)
			same(t, c.name+" of seven lamps", c.run(lamps[:7], nil, goodPoints, 1), want)
			same(t, c.name+" of eight lamps", c.run(lamps, []impl.Solid{angle()}, goodPoints, 1), want)
		}
	}
}

func TestRoomsOfSolidsThatAreNotConvex(t *testing.T) {
	lamps := []impl.Lamp{exampleLamp}
	for _, s := range []impl.Solid{angle(), notched(), goodSolids()["inverted"], twins(cube(), moved(cube(), impl.Point{5, 0, 0}))} {
		for _, c := range roomCalls() {
			want := append(slices.Clone(c.none), codeState)
			for _, list := range [][]impl.Solid{{s}, {slab(1, 2), s}, {slab(1, 2), slab(3, 4), slab(5, 6), slab(7, 8), slab(9, 10), s}, {s, exampleBox}} {
				same(t, c.name, c.run(lamps, list, goodPoints, 1), want)
				// A face or parts that are not there are one more ErrRange, and so they are ahead of it.
				other := want
				if c.other {
					other = append(slices.Clone(c.none), codeRange)
				}
				same(t, c.name, c.run(lamps, list, goodPoints, 99), other)
				same(t, c.name, c.run(lamps, list, goodPoints, -1), other)
				same(t, c.name, c.run([]impl.Lamp{exampleSun}, list, [4]impl.Point{}, 17), other)
				// That a point has no light is asked behind it.
				same(t, c.name, c.run([]impl.Lamp{exampleSun}, list, [4]impl.Point{}, 1), want)
			}
		}
	}
	// A solid that is small enough counts as convex.
	same(t, "a tiny one", all(impl.IsLit(exampleLamp, []impl.Solid{tiny(angle())}, impl.Point{5, 5, 5})), all(true, codeOK))
}
