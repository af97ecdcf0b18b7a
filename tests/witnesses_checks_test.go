package tests

import (
	"math"
	"slices"
	"testing"

	"loop.example/g01249/impl"
)

// answers fails if a claim is not accepted, or is, as wanted.
func answers(t *testing.T, name string, x impl.Scene, c impl.Claim, want bool) {
	t.Helper()
	same(t, name+" "+row(c), all(impl.CheckClaim(x, c)), all(want, codeOK))
	broken := []int64{0}
	if want {
		broken = nil
	}
	same(t, "BrokenClaims "+name, all(impl.BrokenClaims(x, []impl.Claim{c})), all(broken, codeOK))
}

func TestTheExampleOfChecks(t *testing.T) {
	x := exampleScene()
	a, _ := impl.ClaimFor(x, impl.Point{0, 3, 0.5})
	b, c := seen(impl.Point{0, -1, 0.5}, 2), behind(impl.Point{0, -5, 0})
	answers(t, "hidden", x, a, true)
	answers(t, "seen", x, b, true)
	answers(t, "behind", x, c, true)
	wrong := a
	wrong.Share = 0.5
	answers(t, "another share", x, wrong, false)
	same(t, "BrokenClaims", all(impl.BrokenClaims(x, []impl.Claim{wrong, b, c})), all([]int64{0}, codeOK))
	same(t, "CheckClaims", all(impl.CheckClaims(x, []impl.Claim{b, c})), all(int64(0), codeNotFound))
}

func TestCheckBehind(t *testing.T) {
	x := sceneOf(ahead())
	for _, c := range []struct {
		y    float32
		want bool
	}{{0.5, false}, {below(0.5), true}, {0, true}, {minusZero, true}, {-1, true}, {-impl.MaxSize, true}, {2, false}, {8, false}, {impl.MaxSize, false}} {
		answers(t, "behind", x, behind(impl.Point{0, c.y, 0}), c.want)
		answers(t, "beside", x, behind(impl.Point{20, c.y, -30}), c.want)
		// Fields that are not used are not looked at.
		answers(t, "more", x, impl.Claim{Kind: 3, At: impl.Point{0, c.y, 0}, Solid: -7, Face: 99, Share: nan, Free: []int16{-2, 3, 4}}, c.want)
	}
	answers(t, "no solids", sceneOf(), behind(impl.Point{0, -1, 0}), true)
}

func TestCheckHidden(t *testing.T) {
	p := impl.Point{0, 8, 0}
	far := moved(ahead(), impl.Point{0, 3, 0})
	x := sceneOf(far, ahead(), far)
	good := hidden(p, 1, 2, 0.5)
	answers(t, "good", x, good, true)
	change := func(name string, want bool, change func(c *impl.Claim)) {
		t.Helper()
		c := good
		change(&c)
		answers(t, name, x, c, want)
	}
	for _, share := range []float32{
		above(0.5), below(0.5), -0.5, 0, minusZero, 1, -1, nearlyAll, below(nearlyAll), above(nearlyAll), tiniest, -tiniest, 0.25, 0.75,
		nan, otherNaN, infinite, -infinite, greatest, -greatest,
	} {
		change("share", false, func(c *impl.Claim) { c.Share = share })
	}
	for _, solid := range []int64{-1, 0, 2, 3, 4, 7, 1 + 1<<32, 1 + 1<<16, math.MaxInt64, math.MinInt64} {
		change("solid", false, func(c *impl.Claim) { c.Solid = solid })
	}
	for _, face := range []int64{-1, 0, 1, 3, 4, 5, 6, 7, 2 + 1<<32, 2 + 1<<16, math.MaxInt64, math.MinInt64} {
		change("face", false, func(c *impl.Claim) { c.Face = face })
	}
	for _, free := range [][]int16{{}, {-1}, {2, 2, 2}, {-2, 99, -32768, 7}} {
		change("free", true, func(c *impl.Claim) { c.Free = free })
	}
	change("at", false, func(c *impl.Claim) { c.At = impl.Point{0, 8.5, 0} })
	change("aside", true, func(c *impl.Claim) { c.At = impl.Point{1.5, 8, 0} })
	change("just aside", true, func(c *impl.Claim) { c.At = impl.Point{2, 8, 0} })
	change("too far aside", false, func(c *impl.Claim) { c.At = impl.Point{above(2), 8, 0} })
	change("kinds", false, func(c *impl.Claim) { c.Kind = impl.ClSeen })
	change("kinds", false, func(c *impl.Claim) { c.Kind = impl.ClBehind })
	// It need not be the solid with the least share.
	answers(t, "another solid", x, hidden(p, 0, 2, float32(7)/8), true)
	answers(t, "another solid", x, hidden(p, 2, 2, float32(7)/8), true)
	answers(t, "another solid", x, hidden(p, 2, 2, 0.5), false)
	answers(t, "no solids", sceneOf(), hidden(p, 0, 2, 0.5), false)
}

func TestCheckHiddenAtDepths(t *testing.T) {
	// The share is the same, whatever the depth: what is less deep than Near is not hidden.
	for _, c := range []struct {
		y    float32
		want bool
	}{{0.5, true}, {below(0.5), false}, {0.25, false}, {1, true}} {
		x := sceneOf(box(impl.Point{-1, 0.125, -1}, impl.Point{1, 3, 1}))
		answers(t, "near", x, hidden(impl.Point{0, c.y, 0}, 0, 2, 0.125/c.y), c.want)
	}
	back := sceneOf(box(impl.Point{-1, -6, -1}, impl.Point{1, -4, 1}))
	answers(t, "behind", back, hidden(impl.Point{0, -8, 0}, 0, 3, 0.5), false)
	// The eye is inside, or behind the face: the share is less than 0.
	answers(t, "inside", sceneOf(room()), hidden(impl.Point{0, 18, 0}, 0, 2, -0.5), false)
	answers(t, "inside", sceneOf(room()), hidden(impl.Point{0, 18, 0}, 0, 3, 0.5), false)
	answers(t, "in front", sceneOf(ahead()), hidden(impl.Point{0, 2, 0}, 0, 2, 2), false)
	answers(t, "on it", sceneOf(ahead()), hidden(impl.Point{0, 4, 0}, 0, 2, 1), false)
}

// Each plane of the solid is asked: where it goes in, where it goes out, and where it does neither.
func TestCheckHiddenAsksAllPlanes(t *testing.T) {
	p := impl.Point{0, 8, 0}
	// The way goes along the planes of the faces 0, 1, 4 and 5; outside of one, or in one.
	for name, c := range map[string]struct {
		low, high impl.Point
		want      bool
	}{
		"within":       {impl.Point{-1, 4, -1}, impl.Point{1, 6, 1}, true},
		"in a plane":   {impl.Point{0, 4, -1}, impl.Point{1, 6, 1}, true},
		"in another":   {impl.Point{-1, 4, -1}, impl.Point{0, 6, 1}, true},
		"in two":       {impl.Point{0, 4, 0}, impl.Point{1, 6, 1}, true},
		"in two, high": {impl.Point{-1, 4, -1}, impl.Point{minusZero, 6, minusZero}, true},
		"outside":      {impl.Point{tiniest, 4, -1}, impl.Point{1, 6, 1}, false},
		"outside too":  {impl.Point{-1, 4, -1}, impl.Point{-tiniest, 6, 1}, false},
		"above":        {impl.Point{-1, 4, -1}, impl.Point{1, 6, -tiniest}, false},
		"below":        {impl.Point{-1, 4, tiniest}, impl.Point{1, 6, 1}, false},
		"far outside":  {impl.Point{3, 4, -1}, impl.Point{4, 6, 1}, false},
	} {
		x := sceneOf(box(c.low, c.high))
		answers(t, name, x, hidden(p, 0, 2, 0.5), c.want)
		claim, code := impl.ClaimFor(x, p)
		same(t, name, all(claim.Kind == impl.ClHidden, code), all(c.want, codeOK))
	}
	// A way that goes slantwise comes in at two faces, of which the later one counts, and goes out at two others.
	x := sceneOf(box(impl.Point{1, 4, -1}, impl.Point{3, 6, 1}))
	for _, c := range []struct {
		p    impl.Point
		face int64
		t    float32
		want bool
	}{
		// Toward 2, 8: it is at 1, 4 just at an edge: both faces are hit at the same share, and either may be told.
		{impl.Point{2, 8, 0}, 0, 0.5, true}, {impl.Point{2, 8, 0}, 2, 0.5, true}, {impl.Point{2, 8, 0}, 3, 0.75, false}, {impl.Point{2, 8, 0}, 1, 1.5, false},
		{impl.Point{4, 8, 0}, 2, 0.5, true}, {impl.Point{4, 8, 0}, 0, 0.25, false},
		{impl.Point{1.6, 8, 0}, 0, quotient(1, 1.6), true}, {impl.Point{1.6, 8, 0}, 2, 0.5, false},
		// It is past one corner, or the other one.
		{impl.Point{8, 8, 0}, 2, 0.5, false}, {impl.Point{8, 8, 0}, 0, 0.125, false}, {impl.Point{1, 8, 0}, 2, 0.5, false}, {impl.Point{1, 8, 0}, 0, 1, false},
		// Just at the corner that is farther right, it goes in and out at once.
		{impl.Point{6, 8, 0}, 2, 0.5, true}, {impl.Point{above(6), 8, 0}, 2, 0.5, false},
	} {
		answers(t, "slantwise", x, hidden(c.p, 0, c.face, c.t), c.want)
	}
	same(t, "the first face of two", all(impl.ClaimFor(x, impl.Point{2, 8, 0})), all(hidden(impl.Point{2, 8, 0}, 0, 0, 0.5), codeOK))
}

func TestCheckSeen(t *testing.T) {
	p := impl.Point{2, 3, 3}
	x := sceneOf(ahead(), aside())
	// The faces 1 and 2 of the first one do not look to the eye, or do so; of the second one 0, 2 and 4 do.
	same(t, "ClaimFor", all(impl.ClaimFor(x, p)), all(seen(p, 2, 2), codeOK))
	for _, c := range []struct {
		free []int16
		want bool
	}{
		{[]int16{2, 2}, true}, {[]int16{-1, 2}, true}, {[]int16{2, -1}, true}, {[]int16{-1, -1}, true},
		// The point is not outside of these, or the eye is not.
		{[]int16{2, 0}, false}, {[]int16{2, 4}, false}, {[]int16{2, 5}, false}, {[]int16{5, 2}, false}, {[]int16{1, 2}, false}, {[]int16{3, 2}, false}, {[]int16{0, 2}, false},
		// There is no such face.
		{[]int16{6, 2}, false}, {[]int16{2, 6}, false}, {[]int16{-2, 2}, false}, {[]int16{2, -2}, false}, {[]int16{2, 32767}, false}, {[]int16{-32768, 2}, false}, {[]int16{2, 258}, false},
		// Too few, or too many.
		{nil, false}, {[]int16{}, false}, {[]int16{2}, false}, {[]int16{2, 2, 2}, false}, {[]int16{2, 2, -1}, false}, {[]int16{-1}, false}, {[]int16{-1, -1, -1}, false}, {make([]int16, 60), false},
	} {
		answers(t, "seen", x, seen(p, c.free...), c.want)
		// Fields that are not used are not looked at.
		answers(t, "more", x, impl.Claim{Kind: 1, At: p, Solid: 9, Face: -3, Share: -infinite, Free: c.free}, c.want)
	}
	// Without solids nothing has to be told.
	answers(t, "no solids", sceneOf(), seen(p), true)
	answers(t, "no solids", sceneOf(), seen(p, -1), false)
	// What is just as deep as Near is seen, but not what is less deep.
	answers(t, "just Near", sceneOf(ahead()), seen(impl.Point{0, 0.5, 0}, 2), true)
	answers(t, "too near", sceneOf(ahead()), seen(impl.Point{0, below(0.5), 0}, 2), false)
	answers(t, "behind", sceneOf(ahead()), seen(impl.Point{0, -1, 0}, 2), false)
	answers(t, "behind", sceneOf(), seen(impl.Point{0, -1, 0}), false)
	answers(t, "behind", sceneOf(ahead()), seen(impl.Point{0, -1, 0}, -1), false)
}

func TestCheckSeenOfFacesAndPoints(t *testing.T) {
	x := sceneOf(ahead())
	for name, c := range map[string]struct {
		p    impl.Point
		free int16
		want bool
	}{
		"hidden":        {impl.Point{0, 8, 0}, -1, false},
		"hidden, 2":     {impl.Point{0, 8, 0}, 2, false},
		"in front":      {impl.Point{0, 3, 0}, 2, true},
		"in front, -1":  {impl.Point{0, 3, 0}, -1, true},
		"on it":         {impl.Point{0, 4, 0}, 2, true},
		"on it, -1":     {impl.Point{0, 4, 0}, -1, true},
		"just in it":    {impl.Point{0, above(4), 0}, 2, false},
		"just in, -1":   {impl.Point{0, above(4), 0}, -1, true},
		"on an edge":    {impl.Point{1, 4, 0.5}, 2, true},
		"on an edge, 1": {impl.Point{1, 4, 0.5}, 1, false},
		"at a corner":   {impl.Point{1, 4, 1}, 2, true},
		"other corner":  {impl.Point{1, 6, 1}, -1, false},
		"aside":         {impl.Point{3, 8, 0}, -1, true},
		"aside, 1":      {impl.Point{3, 8, 0}, 1, false},
		"just beside":   {impl.Point{above(2), 8, 0}, -1, true},
		"just aside":    {impl.Point{2, 8, 0}, -1, false},
	} {
		answers(t, name, x, seen(c.p, c.free), c.want)
	}
	// The eye in the plane of a face: this is enough, for what lies in the plane as well, though it is hidden too.
	plane := sceneOf(box(impl.Point{-1, 4, 0}, impl.Point{1, 6, 2}))
	answers(t, "below the plane", plane, seen(impl.Point{0, 8, -1}, 4), true)
	answers(t, "in the plane", plane, seen(impl.Point{0, 8, 0}, 4), true)
	answers(t, "in the plane", plane, seen(impl.Point{0, 8, 0}, -1), false)
	answers(t, "above the plane", plane, seen(impl.Point{0, 8, tiniest}, 4), false)
	// The eye inside.
	answers(t, "in a room", sceneOf(room()), seen(impl.Point{0, 5, 0}, -1), true)
	answers(t, "out of a room", sceneOf(room()), seen(impl.Point{0, 50, 0}, -1), true)
	answers(t, "out of a room", sceneOf(room()), seen(impl.Point{0, 50, 0}, 3), false)
}

func TestKindsThatAreNone(t *testing.T) {
	x := exampleScene()
	good := behind(impl.Point{0, -5, 0})
	for _, kind := range []int8{0, 4, -1, 5, 127, -128, -3} {
		c := good
		c.Kind = kind
		same(t, "CheckClaim", all(impl.CheckClaim(x, c)), all(false, codeRange))
		for _, list := range [][]impl.Claim{{c}, {c, good}, {good, c}, append(slices.Repeat([]impl.Claim{good}, 59), c), {seen(impl.Point{}, -2), c}} {
			same(t, "CheckClaims", all(impl.CheckClaims(x, list)), all(int64(0), codeRange))
			same(t, "BrokenClaims", all(impl.BrokenClaims(x, list)), all([]int64{}, codeRange))
		}
		// All At are ahead of how many there are, and that is ahead of the kinds.
		many := append([]impl.Claim{c}, slices.Repeat([]impl.Claim{good}, 60)...)
		same(t, "CheckClaims", all(impl.CheckClaims(x, many)), all(int64(0), codeLimit))
		same(t, "BrokenClaims", all(impl.BrokenClaims(x, many)), all([]int64{}, codeLimit))
		for _, list := range [][]impl.Claim{many, {c, good}} {
			list = slices.Clone(list)
			list[len(list)-1].At[2] = infinite
			same(t, "CheckClaims", all(impl.CheckClaims(x, list)), all(int64(0), codeInvalid))
			same(t, "BrokenClaims", all(impl.BrokenClaims(x, list)), all([]int64{}, codeInvalid))
		}
		c.At[0] = nan
		same(t, "CheckClaim", all(impl.CheckClaim(x, c)), all(false, codeInvalid))
	}
}

func TestManyClaims(t *testing.T) {
	x := exampleScene()
	good, wrong := seen(impl.Point{0, -1, 0.5}, 2), seen(impl.Point{0, 3, 0.5}, 2)
	none := []int64{}
	for _, list := range [][]impl.Claim{nil, {}} {
		same(t, "CheckClaims", all(impl.CheckClaims(x, list)), all(int64(0), codeNotFound))
		same(t, "BrokenClaims", all(impl.BrokenClaims(x, list)), all(none, codeOK))
	}
	for n := 1; n <= 60; n++ {
		list := slices.Repeat([]impl.Claim{good}, n)
		same(t, "CheckClaims", all(impl.CheckClaims(x, list)), all(int64(0), codeNotFound))
		same(t, "BrokenClaims", all(impl.BrokenClaims(x, list)), all(none, codeOK))
		list[n-1] = wrong
		same(t, "CheckClaims, the last", all(impl.CheckClaims(x, list)), all(int64(n-1), codeOK))
		same(t, "BrokenClaims, the last", all(impl.BrokenClaims(x, list)), all([]int64{int64(n - 1)}, codeOK))
		var thirds []int64
		for i := n / 3; i < n; i += 3 {
			list[i] = wrong
			thirds = append(thirds, int64(i))
		}
		if (n-1-n/3)%3 != 0 {
			thirds = append(thirds, int64(n-1))
		}
		same(t, "CheckClaims, thirds", all(impl.CheckClaims(x, list)), all(thirds[0], codeOK))
		same(t, "BrokenClaims, thirds", all(impl.BrokenClaims(x, list)), all(thirds, codeOK))
	}
	for _, n := range []int{61, 62, 1000} {
		for _, c := range []impl.Claim{good, wrong} {
			list := slices.Repeat([]impl.Claim{c}, n)
			same(t, "CheckClaims", all(impl.CheckClaims(x, list)), all(int64(0), codeLimit))
			same(t, "BrokenClaims", all(impl.BrokenClaims(x, list)), all(none, codeLimit))
		}
	}
}
