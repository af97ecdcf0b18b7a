package tests

import (
	"math"
	"slices"
	"testing"

	"loop.example/g01249/impl"
)

// The lamp, the sun, the plane and the box of the example.
var (
	exampleLamp = impl.Lamp{At: impl.Point{0, 0, 4}, Strong: 8}
	exampleSun  = impl.Lamp{At: impl.Point{0, 1, 1}, Sun: true, Strong: 1}
	ground      = level(0)
	exampleBox  = box(impl.Point{-1, -1, 1}, impl.Point{1, 1, 2})
)

// lampAt and sunAt are a lamp and a sun with the strength 1.
func lampAt(x, y, z float32) impl.Lamp { return impl.Lamp{At: impl.Point{x, y, z}, Strong: 1} }
func sunAt(x, y, z float32) impl.Lamp {
	return impl.Lamp{At: impl.Point{x, y, z}, Sun: true, Strong: 1}
}

func TestExampleOfShadows(t *testing.T) {
	p := impl.Point{1, 0, 2}
	same(t, "ShadowOfPoint of a lamp", all(impl.ShadowOfPoint(exampleLamp, ground, p)), all(impl.Point{2, 0, 0}, codeOK))
	same(t, "ShadowOfPoint of a sun", all(impl.ShadowOfPoint(exampleSun, ground, p)), all(impl.Point{1, -2, 0}, codeOK))
	s, code := impl.BoxSolid(impl.Point{-1, -1, 1}, impl.Point{1, 1, 2})
	same(t, "BoxSolid", all(s, code), all(exampleBox, codeOK))
	same(t, "ShadowArea", all(impl.ShadowArea(exampleLamp, ground, s)), all(float32(16), codeOK))
	same(t, "IsLit", all(impl.IsLit(exampleLamp, []impl.Solid{s}, impl.Point{0, 0, 0.5})), all(false, codeOK))
	light, code := impl.LightAt([]impl.Lamp{exampleLamp}, nil, impl.Point{}, impl.Point{0, 0, 1})
	same(t, "LightAt", all(light, code), all(float32(0.5), codeOK))
}

func TestLimitsOfLamps(t *testing.T) {
	same(t, "limits", all(int64(impl.MaxLamps), int64(impl.MaxStrong)), all(int64(6), int64(1000)))
}

// badLamps are lamps that no function takes.
func badLamps() []impl.Lamp {
	var list []impl.Lamp
	for _, sun := range []bool{false, true} {
		for _, a := range []float32{above(impl.MaxSize), below(-impl.MaxSize), infinite, -infinite, nan} {
			for k := range 3 {
				l := impl.Lamp{At: impl.Point{1, 1, 1}, Sun: sun, Strong: 1}
				l.At[k] = a
				list = append(list, l)
			}
		}
		for _, strong := range []float32{-tiniest, -1, -impl.MaxStrong, above(impl.MaxStrong), impl.MaxSize, infinite, -infinite, nan} {
			list = append(list, impl.Lamp{At: impl.Point{1, 1, 1}, Sun: sun, Strong: strong})
		}
	}
	return append(list,
		impl.Lamp{Sun: true}, sunAt(minusZero, minusZero, minusZero), sunAt(0, 0, 0), sunAt(below(1.0/1024), 0, 0), sunAt(0, -below(1.0/1024), 0),
		sunAt(0, 0, 0x1p-11), sunAt(0x1p-11, 0x1p-11, 0x1p-11), sunAt(0, 0, tiniest), sunAt(0x1p-60, 0x1p-60, 0))
}

func goodLamps() []impl.Lamp {
	list := []impl.Lamp{
		exampleLamp, exampleSun, {}, lampAt(minusZero, minusZero, minusZero),
		// The direction of a sun is just as long as it has to be; a lamp may be as near as this, and nearer.
		sunAt(1.0/1024, 0, 0), sunAt(0, -1.0/1024, 0), sunAt(0, 0, 1.0/1024), sunAt(0x1p-11, 0x1p-11, 0x1p-10),
		lampAt(1.0/1024, 0, 0), lampAt(below(1.0/1024), 0, 0), lampAt(0, tiniest, 0), lampAt(0x1p-11, 0, 0),
		lampAt(impl.MaxSize, -impl.MaxSize, impl.MaxSize), sunAt(-impl.MaxSize, impl.MaxSize, -impl.MaxSize),
	}
	for _, strong := range []float32{0, minusZero, tiniest, below(impl.MaxStrong), impl.MaxStrong} {
		for _, sun := range []bool{false, true} {
			list = append(list, impl.Lamp{At: impl.Point{1, 2, 3}, Sun: sun, Strong: strong})
		}
	}
	return list
}

func TestValidLamp(t *testing.T) {
	for _, l := range goodLamps() {
		if !impl.ValidLamp(l) {
			t.Errorf("ValidLamp %s: got false", row(l))
		}
	}
	for _, l := range badLamps() {
		if impl.ValidLamp(l) {
			t.Errorf("ValidLamp %s: got true", row(l))
		}
	}
}

func TestSameLamp(t *testing.T) {
	list := append(goodLamps(), badLamps()...)
	for _, l := range list {
		for _, m := range list {
			if got, want := impl.SameLamp(l, m), row(l) == row(m); got != want {
				t.Errorf("SameLamp %s: got %v", row(l, m), got)
			}
		}
	}
	l := impl.Lamp{At: impl.Point{1, 2, 0}, Sun: true, Strong: 0}
	others := []impl.Lamp{
		{At: impl.Point{above(1), 2, 0}, Sun: true}, {At: impl.Point{1, -2, 0}, Sun: true}, {At: impl.Point{1, 2, minusZero}, Sun: true},
		{At: l.At}, {At: l.At, Sun: true, Strong: minusZero}, {At: l.At, Sun: true, Strong: nan},
	}
	for _, m := range others {
		same(t, "SameLamp "+row(l, m), all(impl.SameLamp(l, m), impl.SameLamp(m, l), impl.SameLamp(m, m)), all(false, false, true))
	}
}

func TestTowardsLamp(t *testing.T) {
	for _, c := range []struct {
		l    impl.Lamp
		p    impl.Point
		want impl.Point
	}{
		{lampAt(1, 2, 3), impl.Point{4, 4, 4}, impl.Point{-3, -2, -1}},
		{lampAt(1, 2, 3), impl.Point{1, 2, 3}, impl.Point{}},
		{lampAt(0, minusZero, 0), impl.Point{0, 0, minusZero}, impl.Point{0, minusZero, 0}},
		{lampAt(impl.MaxSize, 1, 0), impl.Point{-impl.MaxSize, 0x1p-26, tiniest}, impl.Point{2 * impl.MaxSize, 1, -tiniest}},
		// The way to a sun is its direction, wherever the point is, and however long it is.
		{sunAt(1, 2, 3), impl.Point{4, 4, 4}, impl.Point{1, 2, 3}},
		{sunAt(1, minusZero, tiniest), impl.Point{1, 0, 0}, impl.Point{1, minusZero, tiniest}},
		{sunAt(0, 0, -1.0/1024), impl.Point{1, 0, impl.MaxSize}, impl.Point{0, 0, -1.0 / 1024}},
	} {
		same(t, "TowardsLamp "+row(c.l, c.p), all(impl.TowardsLamp(c.l, c.p)), all(c.want, codeOK))
	}
}

func TestShadowOfPoint(t *testing.T) {
	none := impl.Point{}
	for name, c := range map[string]struct {
		l    impl.Lamp
		x    impl.Plane
		p    impl.Point
		want impl.Point
		code int64
	}{
		"of a lamp":   {lampAt(0, 0, 4), ground, impl.Point{1, 0, 2}, impl.Point{2, 0, 0}, codeOK},
		"lower":       {lampAt(0, 0, 4), ground, impl.Point{1, 3, 1}, impl.Point{4.0 / 3, 4, 0}, codeOK},
		"aside":       {lampAt(4, 0, 4), ground, impl.Point{0, 2, 2}, impl.Point{-4, 4, 0}, codeOK},
		"from below":  {lampAt(0, 0, -4), ground, impl.Point{1, -1, -2}, impl.Point{2, -2, 0}, codeOK},
		"higher":      {lampAt(0, 0, 4), level(1), impl.Point{1, 0, 3}, impl.Point{3, 0, 1}, codeOK},
		"other side":  {lampAt(0, 0, 4), beneath(1), impl.Point{1, 0, 3}, impl.Point{3, 0, 1}, codeOK},
		"on a wall":   {lampAt(5, 0, 0), impl.Plane{N: impl.Point{1, 0, 0}, D: -3}, impl.Point{1, 1, -0.5}, impl.Point{-3, 2, -1}, codeOK},
		"of a sun":    {sunAt(0, 1, 1), ground, impl.Point{1, 0, 2}, impl.Point{1, -2, 0}, codeOK},
		"longer":      {sunAt(0, 8, 8), ground, impl.Point{1, 0, 2}, impl.Point{1, -2, 0}, codeOK},
		"from aside":  {sunAt(1, 0, 0), impl.Plane{N: impl.Point{1, 0, 0}, D: -3}, impl.Point{1, 1, 7}, impl.Point{-3, 1, 7}, codeOK},
		"upwards sun": {sunAt(0, 1, -1), level(5), impl.Point{1, 0, 2}, impl.Point{1, -3, 5}, codeOK},
		// A point in the plane is its own shadow, also where the lamp is below.
		"in the plane":       {lampAt(0, 0, 4), ground, impl.Point{3, 5, 0}, impl.Point{3, 5, 0}, codeOK},
		"in it, from below":  {lampAt(0, 0, -4), ground, impl.Point{3, 5, 0}, impl.Point{3, 5, 0}, codeOK},
		"just above it":      {lampAt(0, 0, 4), ground, impl.Point{4, 0, tiniest}, impl.Point{4, 0, 0}, codeOK},
		"just below it":      {lampAt(0, 0, 4), ground, impl.Point{4, 0, -0x1p-100}, none, codeNotFound},
		"just below, lamp":   {lampAt(0, 0, -4), ground, impl.Point{4, 0, -0x1p-100}, impl.Point{4, 0, 0}, codeOK},
		"just above, lamp":   {lampAt(0, 0, -4), ground, impl.Point{4, 0, 0x1p-100}, none, codeNotFound},
		"share is too small": {lampAt(0, 0, 4), ground, impl.Point{4, 0, -tiniest}, impl.Point{4, 0, -tiniest}, codeOK},
		// The plane is between the point and the lamp, or behind the lamp.
		"not behind":      {lampAt(0, 0, 4), ground, impl.Point{0, 0, -1}, none, codeNotFound},
		"behind the lamp": {lampAt(0, 0, 4), level(9), impl.Point{0, 0, 2}, none, codeNotFound},
		"above the lamp":  {lampAt(0, 0, 4), ground, impl.Point{0, 0, 5}, none, codeNotFound},
		"towards the sun": {sunAt(0, 1, 1), level(3), impl.Point{1, 0, 2}, none, codeNotFound},
		// The plane goes along the way, or nearly, or just not too nearly.
		"along the way":    {lampAt(0, 0, 4), ground, impl.Point{1, 0, 4}, none, codeState},
		"in it, along it":  {lampAt(0, 0, 0), ground, impl.Point{1, 0, 0}, none, codeState},
		"at the lamp":      {lampAt(0, 0, 4), ground, impl.Point{0, 0, 4}, none, codeState},
		"along the sun":    {sunAt(1, 0, 0), ground, impl.Point{1, 0, 4}, none, codeState},
		"nearly along":     {sunAt(1, 0, below(limit)), ground, impl.Point{1, 0, 4}, none, codeState},
		"nearly, opposite": {sunAt(1, 0, -below(limit)), ground, impl.Point{1, 0, 4}, none, codeState},
		"not so nearly":    {sunAt(1, 0, limit), ground, impl.Point{1, 0, 0.5}, impl.Point{1 - 0x1p19, 0, 0}, codeOK},
		"not so, opposite": {sunAt(1, 0, -limit), ground, impl.Point{1, 0, -0.5}, impl.Point{1 - 0x1p19, 0, 0}, codeOK},
		"a lamp, nearly":   {lampAt(1, 0, below(limit)), ground, impl.Point{0, 0, 0}, none, codeState},
		"a lamp, less so":  {lampAt(1, 0, limit), ground, impl.Point{0, 0, 0}, impl.Point{0, 0, 0}, codeOK},
		// The plane would not be behind the point either, but that is asked later.
		"nearly, not behind": {sunAt(1, 0, below(limit)), level(5), impl.Point{1, 0, 4}, none, codeState},
		// The shadow need not be valid.
		"far away":      {lampAt(0, 0, 1+limit), ground, impl.Point{1, 0, 1}, impl.Point{1 + 0x1p20, 0, 0}, codeOK},
		"far, of a sun": {sunAt(impl.MaxSize, 0, limit), ground, impl.Point{0, 0, impl.MaxSize}, impl.Point{-1.048576e18, 0, 0}, codeOK},
	} {
		got, code := impl.ShadowOfPoint(c.l, c.x, c.p)
		// Zeros may have any sign here; they are compared elsewhere.
		if code != c.code || impl.DistanceBetween(got, c.want) > 1e-6*impl.LengthOf(c.want) {
			t.Errorf("%s: ShadowOfPoint %s: got %s, want %s", name, row(c.l, c.x, c.p), row(got, code), row(c.want, c.code))
		}
	}
}

func TestZerosOfShadows(t *testing.T) {
	// The share is -0 here, so that -0 stays where the way has a number that is at least 0.
	p := impl.Point{minusZero, 0, 0}
	same(t, "share -0", all(impl.ShadowOfPoint(lampAt(1, -1, -4), ground, p)), all(impl.Point{minusZero, 0, 0}, codeOK))
	same(t, "share 0", all(impl.ShadowOfPoint(lampAt(1, -1, 4), ground, p)), all(impl.Point{0, 0, 0}, codeOK))
}

func TestProductsOfShadowsAreRounded(t *testing.T) {
	// p + t * w: the product is rounded before it is added, to the second number.
	l, p := sunAt(nearOne, 0, 1), impl.Point{squareNearOne, 0, nearOne}
	same(t, "ShadowOfPoint", all(impl.ShadowOfPoint(l, ground, p)), all(impl.Point{0, 0, 0}, codeOK))
}

// slanted is a tetrahedron with corners at the heights 0.5, 1, 2 and 4.5.
func slanted() impl.Solid {
	return changed(tetrahedron(), func(p impl.Point) impl.Point {
		return impl.Point{p[0], p[1], 0.5 + 0.5*p[0] + 1.5*p[1] + 4*p[2]}
	})
}

func TestShadowOfFace(t *testing.T) {
	// The shadows are in the order of the loop, 4 5 7 6.
	same(t, "upper face", all(impl.ShadowOfFace(exampleLamp, ground, exampleBox, 5)),
		all([]impl.Point{{-2, -2, 0}, {2, -2, 0}, {2, 2, 0}, {-2, 2, 0}}, codeOK))
	same(t, "of a sun", all(impl.ShadowOfFace(exampleSun, ground, exampleBox, 5)),
		all([]impl.Point{{-1, -3, 0}, {1, -3, 0}, {1, -1, 0}, {-1, -1, 0}}, codeOK))
	// Solids need not be convex here.
	uneven := moved(angle(), impl.Point{0, 0, 1})
	for face, loop := range uneven.Faces {
		got, code := impl.ShadowOfFace(lampAt(0.5, 0.5, 7), ground, uneven, int64(face))
		want := []impl.Point{}
		for _, i := range loop {
			p, _ := shadowOf(lampAt(0.5, 0.5, 7), ground, uneven.Corners[i])
			want = append(want, p)
		}
		same(t, "uneven", all(got, code), all(want, codeOK))
	}
	// With the lamp at the height 1, and corners at 0.5, 1, 2 and 4.5, it is the first corner of the loop with an error that tells it.
	s, l := slanted(), lampAt(9, 9, 1)
	for face, code := range []int64{codeNotFound, codeState, codeState, codeNotFound} {
		same(t, "slanted "+row(s.Faces[face]), all(impl.ShadowOfFace(l, ground, s, int64(face))), all([]impl.Point{}, code))
	}
	s.Faces[1] = []int16{3, 0, 1}
	same(t, "begun elsewhere", all(impl.ShadowOfFace(l, ground, s, 1)), all([]impl.Point{}, codeNotFound))
	// ErrRange is ahead of these.
	for _, face := range []int64{-1, 4, 5, 16, math.MaxInt64, math.MinInt64, 1 << 32, 1 << 16} {
		same(t, "no such face "+row(face), all(impl.ShadowOfFace(l, ground, s, face)), all([]impl.Point{}, codeRange))
		same(t, "no such face "+row(face), all(impl.ShadowOfFace(exampleLamp, level(-1), s, face)), all([]impl.Point{}, codeRange))
	}
	same(t, "face 5 of a box", all(impl.ShadowOfFace(exampleLamp, ground, exampleBox, 6)), all([]impl.Point{}, codeRange))
}

// shadowCall is a function of a lamp, a plane, a solid and a point.
type shadowCall struct {
	name string
	run  func(l impl.Lamp, x impl.Plane, s impl.Solid, p impl.Point) []any
	none []any
	// uses tells which of the four arguments the function has.
	uses string
}

func shadowCalls() []shadowCall {
	return []shadowCall{
		{"TowardsLamp", func(l impl.Lamp, _ impl.Plane, _ impl.Solid, p impl.Point) []any {
			return all(impl.TowardsLamp(l, p))
		}, all(impl.Point{}), "lp"},
		{"ShadowOfPoint", func(l impl.Lamp, x impl.Plane, _ impl.Solid, p impl.Point) []any {
			return all(impl.ShadowOfPoint(l, x, p))
		}, all(impl.Point{}), "lxp"},
		{"ShadowOfFace", func(l impl.Lamp, x impl.Plane, s impl.Solid, _ impl.Point) []any {
			return all(impl.ShadowOfFace(l, x, s, 1))
		}, all([]impl.Point{}), "lxs"},
		{"ShadowOfFace that is not there", func(l impl.Lamp, x impl.Plane, s impl.Solid, _ impl.Point) []any {
			if impl.ValidLamp(l) && impl.ValidPlane(x) && impl.ValidSolid(s) {
				return all([]impl.Point{}, codeOK)
			}
			return all(impl.ShadowOfFace(l, x, s, -1))
		}, all([]impl.Point{}), "lxs"},
		{"ShadowOutline", func(l impl.Lamp, x impl.Plane, s impl.Solid, _ impl.Point) []any {
			return all(impl.ShadowOutline(l, x, s))
		}, all([]place{}), "lxs"},
		{"ShadowArea", func(l impl.Lamp, x impl.Plane, s impl.Solid, _ impl.Point) []any {
			return all(impl.ShadowArea(l, x, s))
		}, all(float32(0)), "lxs"},
		{"BasisOf", func(_ impl.Lamp, x impl.Plane, _ impl.Solid, _ impl.Point) []any {
			return all(impl.BasisOf(x))
		}, all(impl.Point{}, impl.Point{}), "x"},
		{"PlaceOf", func(_ impl.Lamp, x impl.Plane, _ impl.Solid, p impl.Point) []any {
			return all(impl.PlaceOf(x, p))
		}, all(place{}), "xp"},
		{"FromPlane", func(_ impl.Lamp, x impl.Plane, _ impl.Solid, _ impl.Point) []any {
			return all(impl.FromPlane(x, place{1, 2}))
		}, all(impl.Point{}), "x"},
	}
}

func TestShadowsOfWhatIsNotValid(t *testing.T) {
	p := impl.Point{0, 0, 2}
	for _, c := range shadowCalls() {
		invalid := append(slices.Clone(c.none), codeInvalid)
		uses := func(argument rune) bool { return slices.Contains([]rune(c.uses), argument) }
		results := c.run(exampleLamp, ground, exampleBox, p)
		if code := results[len(results)-1]; code != any(codeOK) {
			t.Errorf("%s: got the code %d", c.name, code)
		}
		for _, l := range badLamps() {
			if uses('l') {
				same(t, c.name+" "+row(l), c.run(l, ground, exampleBox, p), invalid)
			}
		}
		for _, x := range badPlanes {
			if uses('x') {
				same(t, c.name+" "+row(x), c.run(exampleLamp, x, exampleBox, p), invalid)
			}
		}
		for name, s := range badSolids() {
			if uses('s') {
				same(t, c.name+" "+name, c.run(exampleLamp, ground, s, p), invalid)
				// There would be other errors, too.
				same(t, c.name+" "+name, c.run(lampAt(0, 0, -9), level(-9), s, p), invalid)
			}
		}
		for _, p := range badPoints {
			if uses('p') {
				same(t, c.name+" "+row(p), c.run(exampleLamp, ground, exampleBox, p), invalid)
				same(t, c.name+" "+row(p), c.run(sunAt(1, 0, 0), ground, exampleBox, p), invalid)
			}
		}
	}
	for _, x := range badPlanes {
		same(t, "FromPlane "+row(x), all(impl.FromPlane(x, place{nan, 0})), all(impl.Point{}, codeInvalid))
	}
}
