package tests

import (
	"slices"
	"testing"

	"loop.example/g01249/impl"
)

// exampleScene is the scene of the example.
func exampleScene() impl.Scene {
	return impl.Scene{
		Camera: impl.Camera{Eye: impl.Point{0, -4, 0.5}, At: impl.Point{0, 0, 0.5}, Up: impl.Point{0, 0, 1}, Far: 1, Near: 0.5},
		Solids: []impl.Solid{box(impl.Point{-1, 0, 0}, impl.Point{1, 1, 1})},
	}
}

// sceneOf is what the camera straight sees: its eye is the point of zeros, and a number y is the depth.
func sceneOf(list ...impl.Solid) impl.Scene { return impl.Scene{Camera: straight, Solids: list} }

func seen(p impl.Point, free ...int16) impl.Claim {
	return impl.Claim{Kind: impl.ClSeen, At: p, Free: free}
}

func hidden(p impl.Point, solid, face int64, share float32) impl.Claim {
	return impl.Claim{Kind: impl.ClHidden, At: p, Solid: solid, Face: face, Share: share}
}

func behind(p impl.Point) impl.Claim { return impl.Claim{Kind: impl.ClBehind, At: p} }

// room is a box around the eye.
func room() impl.Solid { return box(everywhere(-9), everywhere(9)) }

// deepBox begins at a depth, and has the way straight ahead in its middle.
func deepBox(y float32) impl.Solid { return box(impl.Point{-1, y, -1}, impl.Point{1, 2000, 1}) }

func TestTheExampleOfWitnesses(t *testing.T) {
	x := exampleScene()
	c, code := impl.ClaimFor(x, impl.Point{0, 3, 0.5})
	share := c.Share
	if share < 0.571428 || share > 0.571429 {
		t.Errorf("the share is %v", share)
	}
	same(t, "hidden", all(c, code), all(hidden(impl.Point{0, 3, 0.5}, 0, 2, share), codeOK))
	same(t, "seen", all(impl.ClaimFor(x, impl.Point{0, -1, 0.5})), all(seen(impl.Point{0, -1, 0.5}, 2), codeOK))
	same(t, "behind", all(impl.ClaimFor(x, impl.Point{0, -5, 0})), all(behind(impl.Point{0, -5, 0}), codeOK))
	a, b := impl.Point{-4, 2, 0.5}, impl.Point{4, 2, 0.5}
	same(t, "SeenParts", all(impl.SeenParts(x, a, b, 4)), all([][2]int64{{0, 0}, {3, 3}}, codeOK))
	same(t, "SeenShare", all(impl.SeenShare(x, a, b, 4)), all(float32(0.5), codeOK))
	same(t, "SeenCorners", all(impl.SeenCorners(x)), all([][2]int64{{0, 0}, {0, 1}, {0, 4}, {0, 5}}, codeOK))
}

func TestValidScene(t *testing.T) {
	for name, x := range map[string]impl.Scene{
		"the example": exampleScene(),
		"no solids":   sceneOf(),
		"empty list":  {Camera: straight, Solids: []impl.Solid{}},
		"six":         sceneOf(slices.Repeat([]impl.Solid{ahead()}, 6)...),
		"in the eye":  sceneOf(room()),
		"tiny":        sceneOf(tiny(angle())),
	} {
		if !impl.ValidScene(x) {
			t.Errorf("%s: it is not valid", name)
		}
	}
	for name, x := range badScenes() {
		if impl.ValidScene(x) {
			t.Errorf("%s: it is valid", name)
		}
	}
}

// badScenes are scenes that no function takes.
func badScenes() map[string]impl.Scene {
	list := map[string]impl.Scene{
		"nothing":           {},
		"seven":             sceneOf(slices.Repeat([]impl.Solid{ahead()}, 7)...),
		"not convex":        sceneOf(angle()),
		"the last one not":  sceneOf(ahead(), ahead(), notched()),
		"the first one not": sceneOf(twins(cube(), moved(cube(), impl.Point{5, 0, 0})), ahead()),
		"only solids":       {Solids: []impl.Solid{ahead()}},
	}
	for name, s := range badSolids() {
		list["alone, "+name], list["one of two, "+name] = sceneOf(s), sceneOf(ahead(), s)
	}
	for _, c := range badCameras() {
		list[row(c)] = impl.Scene{Camera: c, Solids: []impl.Solid{ahead()}}
	}
	return list
}

func TestSameScene(t *testing.T) {
	x := sceneOf(ahead(), cube())
	same(t, "SameScene", all(impl.SameScene(x, sceneOf(ahead(), cube())), impl.SameScene(impl.Scene{}, impl.Scene{Solids: []impl.Solid{}})), all(true, true))
	scenes := []impl.Scene{
		x, sceneOf(), sceneOf(ahead()), sceneOf(cube(), ahead()), sceneOf(ahead(), cube(), cube()), sceneOf(cube()),
		sceneOf(ahead(), altered(cube(), func(s *impl.Solid) { s.Corners[0][1] = minusZero })),
		sceneOf(ahead(), altered(cube(), func(s *impl.Solid) { s.Corners[7][1] = nan })),
		{Camera: tilted, Solids: x.Solids}, {}, {Solids: x.Solids},
		{Camera: with(func(c *impl.Camera) { c.Eye[1] = minusZero }), Solids: x.Solids},
		{Camera: with(func(c *impl.Camera) { c.Near = nan }), Solids: x.Solids},
	}
	for i, x := range scenes {
		for k, y := range scenes {
			if got := impl.SameScene(x, y); got != (i == k) {
				t.Errorf("SameScene of %d and %d: got %v", i, k, got)
			}
		}
	}
}

func TestSameClaim(t *testing.T) {
	c := impl.Claim{Kind: 2, At: impl.Point{1, 2, 3}, Solid: 4, Face: 5, Share: 0.5, Free: []int16{7, -1}}
	change := func(change func(c *impl.Claim)) impl.Claim {
		d := c
		d.Free = slices.Clone(c.Free)
		change(&d)
		return d
	}
	claims := []impl.Claim{
		c, {}, change(func(c *impl.Claim) { c.Kind = 3 }), change(func(c *impl.Claim) { c.At[2] = 4 }), change(func(c *impl.Claim) { c.At[0] = nan }),
		change(func(c *impl.Claim) { c.At[0] = 0 }), change(func(c *impl.Claim) { c.At[0] = minusZero }),
		change(func(c *impl.Claim) { c.Solid = 5 }), change(func(c *impl.Claim) { c.Solid += 1 << 32 }), change(func(c *impl.Claim) { c.Face = -5 }),
		change(func(c *impl.Claim) { c.Share = above(0.5) }), change(func(c *impl.Claim) { c.Share = 0 }), change(func(c *impl.Claim) { c.Share = minusZero }),
		change(func(c *impl.Claim) { c.Share = nan }), change(func(c *impl.Claim) { c.Share = infinite }),
		change(func(c *impl.Claim) { c.Free[1] = -2 }), change(func(c *impl.Claim) { c.Free = c.Free[:1] }), change(func(c *impl.Claim) { c.Free = append(c.Free, 0) }),
		change(func(c *impl.Claim) { c.Free = nil }), change(func(c *impl.Claim) { c.Free[0], c.Free[1] = -1, 7 }),
	}
	for i, c := range claims {
		for k, d := range claims {
			if got := impl.SameClaim(c, d); got != (i == k) {
				t.Errorf("SameClaim %s: got %v", row(c, d), got)
			}
		}
	}
	// Each NaN is the same, and so are nil and an empty list.
	one, other := impl.Claim{Share: nan, At: impl.Point{otherNaN, 0, 0}}, impl.Claim{Share: otherNaN, At: impl.Point{nan, 0, 0}, Free: []int16{}}
	same(t, "SameClaim", all(impl.SameClaim(one, other)), all(true))
}

func TestClaimFor(t *testing.T) {
	least, turned := ahead(), altered(ahead(), func(s *impl.Solid) { s.Faces[0], s.Faces[2] = s.Faces[2], s.Faces[0] })
	near, far := moved(ahead(), impl.Point{0, -2, 0}), moved(ahead(), impl.Point{0, 3, 0})
	for name, c := range map[string]struct {
		x    impl.Scene
		want impl.Claim
	}{
		// Just as deep as Near, and just less.
		"just Near":      {sceneOf(), seen(impl.Point{0, 0.5, 0})},
		"just less":      {sceneOf(), behind(impl.Point{0, below(0.5), 0})},
		"just Near, far": {sceneOf(), seen(impl.Point{-900, 0.5, 1000})},
		"the eye":        {sceneOf(), behind(impl.Point{})},
		"beside the eye": {sceneOf(ahead()), behind(impl.Point{7, 0, 0})},
		"behind the eye": {sceneOf(ahead()), behind(impl.Point{0, -7, 0})},
		"behind, -0":     {sceneOf(ahead()), behind(impl.Point{minusZero, minusZero, minusZero})},
		// What is behind is not asked whether it is hidden, and what is hidden by what is less deep than Near is hidden.
		"behind, hidden": {sceneOf(box(impl.Point{-1, -6, -1}, impl.Point{1, -4, 1})), behind(impl.Point{0, -9, 0})},
		"hidden nearby":  {sceneOf(box(impl.Point{-1, 0.125, -1}, impl.Point{1, 0.25, 1})), hidden(impl.Point{0, 4, 0}, 0, 2, 0.03125)},
		"in front":       {sceneOf(ahead()), seen(impl.Point{0, 2, 0}, 2)},
		"hidden":         {sceneOf(ahead()), hidden(impl.Point{0, 8, 0}, 0, 2, 0.5)},
		"inside":         {sceneOf(ahead()), hidden(impl.Point{0, 5, 0}, 0, 2, float32(4)/5)},
		"aside":          {sceneOf(ahead()), seen(impl.Point{9, 5, 0}, -1)},
		"aside, further": {sceneOf(ahead()), seen(impl.Point{9, 7, 0}, -1)},
		"no number lost": {sceneOf(), seen(impl.Point{minusZero, impl.MaxSize, tiniest})},
		// On a face, on an edge and at a corner.
		"on the face":     {sceneOf(ahead()), seen(impl.Point{0, 4, 0}, 2)},
		"on the edge":     {sceneOf(ahead()), seen(impl.Point{0, 4, 1}, 2)},
		"at the corner":   {sceneOf(ahead()), seen(impl.Point{1, 4, 1}, 2)},
		"on a far face":   {sceneOf(ahead()), hidden(impl.Point{0, 6, 0}, 0, 2, float32(4)/6)},
		"at a far corner": {sceneOf(ahead()), hidden(impl.Point{1, 6, 1}, 0, 2, float32(4)/6)},
		// The eye in the plane of a face: the way lies in this plane, and hits all the same.
		"in the plane":    {sceneOf(box(impl.Point{-1, 4, 0}, impl.Point{1, 6, 2})), hidden(impl.Point{0, 8, 0}, 0, 2, 0.5)},
		"below the plane": {sceneOf(box(impl.Point{-1, 4, 0}, impl.Point{1, 6, 2})), seen(impl.Point{0, 8, -1}, 4)},
		"two planes":      {sceneOf(box(impl.Point{0, 4, 0}, impl.Point{1, 6, 2})), seen(impl.Point{-1, 8, -1}, 0)},
		// The eye on a face: all is hidden that lies in it and behind it.
		"on the face, -0": {sceneOf(box(impl.Point{1, 0, 1}, impl.Point{2, 2, 2})), seen(impl.Point{0, 1, 0}, 0)},
		"touching, -0":    {sceneOf(moved(box(impl.Point{-2, -2, -2}, impl.Point{2, 2, 2}), impl.Point{0, 2, 0})), hidden(impl.Point{0, 1, 0}, 0, 2, 0)},
		// The eye is inside: nothing is hit, whatever the point is.
		"in a room":      {sceneOf(room()), seen(impl.Point{0, 1, 0}, -1)},
		"out of a room":  {sceneOf(room()), seen(impl.Point{0, 20, 0}, -1)},
		"on the wall":    {sceneOf(room()), seen(impl.Point{0, 9, 0}, -1)},
		"room and a box": {sceneOf(room(), ahead()), hidden(impl.Point{0, 8, 0}, 1, 2, 0.5)},
		"room, in front": {sceneOf(ahead(), room()), seen(impl.Point{0, 2, 0}, 2, -1)},
		// The least share, and of equal ones the first solid.
		"the least":      {sceneOf(far, least, near), hidden(impl.Point{0, 8, 0}, 2, 2, 0.25)},
		"the least, 0":   {sceneOf(near, least, far), hidden(impl.Point{0, 8, 0}, 0, 2, 0.25)},
		"the same":       {sceneOf(far, least, turned), hidden(impl.Point{0, 8, 0}, 1, 2, 0.5)},
		"the same again": {sceneOf(turned, least, far), hidden(impl.Point{0, 8, 0}, 0, 0, 0.5)},
		// The first one hides nothing of a point between both.
		"between":      {sceneOf(far, near), hidden(impl.Point{0, 5, 0}, 1, 2, float32(2)/5)},
		"between, too": {sceneOf(far, least), seen(impl.Point{0, 3, 0}, 2, 2)},
	} {
		want := c.want
		got, code := impl.ClaimFor(c.x, want.At)
		if got.Share == 0 && want.Share == 0 {
			// Which zero it is is asked below.
			want.Share = got.Share
		}
		same(t, name, all(got, code), all(want, codeOK))
		same(t, name+" is accepted", all(impl.CheckClaim(c.x, got)), all(true, codeOK))
	}
}

func TestSharesThatCount(t *testing.T) {
	p := impl.Point{0, 1024, 0}
	// Just 1023/1024 of the way is not less.
	same(t, "just", all(impl.ClaimFor(sceneOf(deepBox(1023)), p)), all(seen(p, -1), codeOK))
	same(t, "just more", all(impl.ClaimFor(sceneOf(deepBox(above(1023))), p)), all(seen(p, -1), codeOK))
	same(t, "just less", all(impl.ClaimFor(sceneOf(deepBox(below(1023))), p)), all(hidden(p, 0, 2, below(nearlyAll)), codeOK))
	// The same is asked where the claim is checked.
	for _, c := range []struct {
		s     impl.Solid
		share float32
		hides bool
	}{
		{deepBox(1023), nearlyAll, false}, {deepBox(above(1023)), above(nearlyAll), false}, {deepBox(below(1023)), below(nearlyAll), true}, {deepBox(512), 0.5, true}, {deepBox(1024), 1, false}, {deepBox(1536), 1.5, false},
	} {
		x := sceneOf(c.s)
		same(t, "hidden "+row(c.share), all(impl.CheckClaim(x, hidden(p, 0, 2, c.share))), all(c.hides, codeOK))
		same(t, "seen "+row(c.share), all(impl.CheckClaim(x, seen(p, -1))), all(!c.hides, codeOK))
		// The way back begins inside.
		same(t, "SeeEachOther "+row(c.share), all(impl.SeeEachOther(x, impl.Point{}, p)), all(!c.hides, codeOK))
		same(t, "SeeEachOther, back "+row(c.share), all(impl.SeeEachOther(x, p, impl.Point{})), all(!c.hides, codeOK))
		same(t, "SeenShare "+row(c.share), all(impl.SeenShare(x, p, p, 1)), all(map[bool]float32{true: 0, false: 1}[c.hides], codeOK))
	}
	// Of two solids the one that does not count does not hide, whichever comes first.
	for i, list := range [][]impl.Solid{{deepBox(1023), deepBox(512)}, {deepBox(512), deepBox(1023)}} {
		same(t, "two", all(impl.ClaimFor(sceneOf(list...), p)), all(hidden(p, int64(1-i), 2, 0.5), codeOK))
	}
}

// The share is 0 or -0 where the eye lies on the face that is hit.
func TestSharesThatAreZero(t *testing.T) {
	minus := moved(ahead(), impl.Point{0, -4, 0})
	plus := box(impl.Point{-1, 0, -1}, impl.Point{1, 2, 1})
	// The loop of its face begins with a corner that makes D 0.
	minus.Faces[2] = []int16{5, 4, 0, 1}
	p := impl.Point{0, 1, 0}
	same(t, "-0", all(impl.ClaimFor(sceneOf(minus), p)), all(hidden(p, 0, 2, minusZero), codeOK))
	same(t, "0", all(impl.ClaimFor(sceneOf(plus), p)), all(hidden(p, 0, 2, 0), codeOK))
	// They are equal: the first one counts.
	same(t, "-0 and 0", all(impl.ClaimFor(sceneOf(minus, plus), p)), all(hidden(p, 0, 2, minusZero), codeOK))
	same(t, "0 and -0", all(impl.ClaimFor(sceneOf(plus, minus), p)), all(hidden(p, 0, 2, 0), codeOK))
	// But they are not the same.
	for _, c := range []struct {
		s     impl.Solid
		share float32
		want  bool
	}{{minus, minusZero, true}, {minus, 0, false}, {plus, minusZero, false}, {plus, 0, true}} {
		same(t, "CheckClaim "+row(c.share), all(impl.CheckClaim(sceneOf(c.s), hidden(p, 0, 2, c.share))), all(c.want, codeOK))
	}
	// A point on this face, which is seen just so, is in no way ahead.
	same(t, "beside the eye", all(impl.ClaimFor(sceneOf(plus), impl.Point{0.5, 0, 0})), all(behind(impl.Point{0.5, 0, 0}), codeOK))
}

func TestClaimsFor(t *testing.T) {
	x := exampleScene()
	list := []impl.Point{{0, 3, 0.5}, {0, -1, 0.5}, {0, -5, 0}, {0, 3, 0.5}}
	claims, code := impl.ClaimsFor(x, list)
	share := claims[0].Share
	same(t, "ClaimsFor", all(claims, code), all([]impl.Claim{hidden(list[0], 0, 2, share), seen(list[1], 2), behind(list[2]), hidden(list[0], 0, 2, share)}, codeOK))
	for _, none := range [][]impl.Point{nil, {}} {
		same(t, "none", all(impl.ClaimsFor(x, none)), all([]impl.Claim{}, codeOK))
	}
	for n, want := range map[int]int64{59: codeOK, 60: codeOK, 61: codeLimit, 62: codeLimit, 1000: codeLimit} {
		many := slices.Repeat(list[1:2], n)
		claims, code := impl.ClaimsFor(x, many)
		same(t, "many", all(len(claims) == n, len(claims) == 0, code), all(want == codeOK, want != codeOK, want))
		// A point that is not valid is ahead of too many.
		many[n-1][1] = nan
		same(t, "not valid", all(impl.ClaimsFor(x, many)), all([]impl.Claim{}, codeInvalid))
		same(t, "a scene that is not", all(impl.ClaimsFor(sceneOf(angle()), many[:n-1])), all([]impl.Claim{}, codeInvalid))
	}
}

// Scenes and points that are not valid are ErrInvalid, ahead of all other errors.
func TestScenesThatAreNotTaken(t *testing.T) {
	bad := func(name string, x impl.Scene, p impl.Point) {
		check := func(function string, got []any, want ...any) {
			t.Helper()
			same(t, function+" "+name, got, append(want, codeInvalid))
		}
		check("ClaimFor", all(impl.ClaimFor(x, p)), impl.Claim{})
		check("SeeEachOther", all(impl.SeeEachOther(x, p, impl.Point{})), false)
		check("SeeEachOther", all(impl.SeeEachOther(x, impl.Point{}, p)), false)
		for _, n := range []int{1, 60, 61} {
			check("ClaimsFor", all(impl.ClaimsFor(x, slices.Repeat([]impl.Point{p}, n))), []impl.Claim{})
			for _, kind := range []int8{1, 2, 3, 0, 4, -1} {
				c := impl.Claim{Kind: kind, At: p}
				list := append(slices.Repeat([]impl.Claim{behind(impl.Point{})}, n-1), c)
				check("CheckClaim", all(impl.CheckClaim(x, c)), false)
				check("CheckClaims", all(impl.CheckClaims(x, list)), int64(0))
				check("BrokenClaims", all(impl.BrokenClaims(x, list)), []int64{})
			}
		}
		for _, parts := range []int64{0, 1, 16, 17} {
			check("SeenShare", all(impl.SeenShare(x, p, impl.Point{}, parts)), float32(0))
			check("SeenShare", all(impl.SeenShare(x, impl.Point{}, p, parts)), float32(0))
			check("SeenParts", all(impl.SeenParts(x, p, impl.Point{}, parts)), [][2]int64{})
			check("SeenParts", all(impl.SeenParts(x, impl.Point{}, p, parts)), [][2]int64{})
		}
		for _, solid := range []int64{0, -1, 7} {
			check("MoveInScene", all(impl.MoveInScene(x, solid, p)), impl.Scene{})
		}
	}
	for name, x := range badScenes() {
		bad(name, x, impl.Point{0, 1, 0})
		bad(name, x, impl.Point{nan, 1, 0})
		same(t, "SeenCorners "+name, all(impl.SeenCorners(x)), all([][2]int64{}, codeInvalid))
		for _, parts := range []int64{0, 1, 16, 17} {
			same(t, "SketchOf "+name, all(impl.SketchOf(x, parts)), all([][2]impl.Spot{}, codeInvalid))
		}
		for _, order := range [][]int64{nil, {0}, {0, 1}, {5}} {
			same(t, "CheckOrder "+name, all(impl.CheckOrder(x, order)), all(int64(0), int64(0), codeInvalid))
		}
		// A list without points or claims is none that would make it valid.
		same(t, "ClaimsFor none "+name, all(impl.ClaimsFor(x, nil)), all([]impl.Claim{}, codeInvalid))
		same(t, "CheckClaims none "+name, all(impl.CheckClaims(x, nil)), all(int64(0), codeInvalid))
		same(t, "BrokenClaims none "+name, all(impl.BrokenClaims(x, nil)), all([]int64{}, codeInvalid))
		same(t, "SceneText "+name, all(impl.SceneText(x)), all(""))
	}
	for _, p := range badPoints {
		bad(row(p), exampleScene(), p)
		bad(row(p), sceneOf(), p)
	}
}
