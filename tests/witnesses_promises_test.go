package tests

import (
	"slices"
	"strings"
	"sync"
	"testing"

	"loop.example/g01249/impl"
)

// witnessCallsWithCodes are calls of all functions of chapter 7 that return a code.
func witnessCallsWithCodes(m maker) []call {
	x, parts := m.scene(), m.parts()
	p, c, list := m.sightPoint(x), m.claim(x), m.claims(x)
	a, b := m.lineIn(x)
	order, solid, by := m.orderFor(x), int64(m.Intn(8)-1), m.step()
	points := make([]impl.Point, m.Intn(5))
	if m.Intn(10) == 0 {
		points = make([]impl.Point, 61)
	}
	for i := range points {
		points[i] = m.sightPoint(x)
	}
	text := sceneText(x)
	if m.Intn(4) == 0 {
		text = text[:m.Intn(len(text)+1)]
	}
	return []call{
		{"ClaimFor", func() []any { return all(impl.ClaimFor(x, p)) }},
		{"ClaimsFor", func() []any { return all(impl.ClaimsFor(x, points)) }},
		{"CheckClaim", func() []any { return all(impl.CheckClaim(x, c)) }},
		{"CheckClaims", func() []any { return all(impl.CheckClaims(x, list)) }},
		{"BrokenClaims", func() []any { return all(impl.BrokenClaims(x, list)) }},
		{"SeeEachOther", func() []any { return all(impl.SeeEachOther(x, a, b)) }},
		{"SeenCorners", func() []any { return all(impl.SeenCorners(x)) }},
		{"SeenShare", func() []any { return all(impl.SeenShare(x, a, b, parts)) }},
		{"SeenParts", func() []any { return all(impl.SeenParts(x, a, b, parts)) }},
		{"SketchOf", func() []any { return all(impl.SketchOf(x, parts)) }},
		{"CheckOrder", func() []any { return all(impl.CheckOrder(x, order)) }},
		{"MoveInScene", func() []any { return all(impl.MoveInScene(x, solid, by)) }},
		{"ReadScene", func() []any { return all(impl.ReadScene(text)) }},
	}
}

// witnessCallsWithoutCodes are calls of all the others.
func witnessCallsWithoutCodes(m maker) []call {
	x, y := m.scene(), m.scene()
	c, d := m.claim(x), m.falsified(m.claim(y))
	return []call{
		{"ValidScene", func() []any { return all(impl.ValidScene(x)) }},
		{"SameScene", func() []any { return all(impl.SameScene(x, y), impl.SameScene(x, x)) }},
		{"SameClaim", func() []any { return all(impl.SameClaim(c, d), impl.SameClaim(c, c)) }},
		{"SceneText", func() []any { return all(impl.SceneText(x)) }},
	}
}

func TestP1WitnessesLeaveTheirArguments(t *testing.T) {
	t.Parallel()
	m := newMaker()
	for range rounds / 80 {
		x := m.validScene()
		n := len(x.Solids)
		for i, s := range x.Solids {
			x.Solids[i] = withRoom(s)
		}
		// There is room behind the lists, in which there is something already.
		x.Solids = append(x.Solids, withRoom(cube()), withRoom(tetrahedron()))[:n]
		points, claims := make([]impl.Point, 6), make([]impl.Claim, 6)
		for i := range points {
			points[i] = m.sightPoint(x)
			if !impl.ValidPoint(points[i]) {
				points[i] = impl.Point{1, 2, 3}
			}
			claims[i] = claimOf(x, points[i])
			claims[i].Free = append(slices.Clone(claims[i].Free), 55, 56)[:len(claims[i].Free)]
		}
		order, _ := inOrder(n + 2)
		m.Shuffle(n, func(i, k int) { order[i], order[k] = order[k], order[i] })
		state := func() string {
			text := row(points, claims, order, x.Camera)
			for _, s := range x.Solids[:n+2] {
				text += whole(s)
			}
			for _, c := range claims {
				text += row(c.Free[:len(c.Free)+2])
			}
			return text
		}
		before := state()
		by, last := m.pointWithin(1), int64(max(n, 1)-1)
		for _, c := range []call{
			{"ValidScene", func() []any { return all(impl.ValidScene(x)) }},
			{"SameScene", func() []any { return all(impl.SameScene(x, x)) }},
			{"ClaimFor", func() []any { return all(impl.ClaimFor(x, points[0])) }},
			{"ClaimsFor", func() []any { return all(impl.ClaimsFor(x, points[:4])) }},
			{"SameClaim", func() []any { return all(impl.SameClaim(claims[0], claims[1])) }},
			{"CheckClaim", func() []any { return all(impl.CheckClaim(x, claims[0])) }},
			{"CheckClaims", func() []any { return all(impl.CheckClaims(x, claims[:4])) }},
			{"BrokenClaims", func() []any { return all(impl.BrokenClaims(x, claims[:4])) }},
			{"SeeEachOther", func() []any { return all(impl.SeeEachOther(x, points[0], points[1])) }},
			{"SeenCorners", func() []any { return all(impl.SeenCorners(x)) }},
			{"SeenShare", func() []any { return all(impl.SeenShare(x, points[0], points[1], 8)) }},
			{"SeenParts", func() []any { return all(impl.SeenParts(x, points[0], points[1], 8)) }},
			{"SketchOf", func() []any { return all(impl.SketchOf(x, 3)) }},
			{"CheckOrder", func() []any { return all(impl.CheckOrder(x, order[:n])) }},
			{"MoveInScene", func() []any { return all(impl.MoveInScene(x, last, by)) }},
			{"SceneText", func() []any { return all(impl.SceneText(x)) }},
			{"ReadScene", func() []any { return all(impl.ReadScene(sceneText(x))) }},
		} {
			first, again := c.run(), c.run()
			want := row(again...)
			for _, result := range first {
				scribble(result)
			}
			if after := state(); after != before {
				t.Fatalf("%s: the arguments were %s, and are %s", c.name, before, after)
			}
			if row(again...) != want {
				t.Fatalf("%s: two results share memory", c.name)
			}
		}
	}
}

// No two lists of one result share memory, either.
func TestP1ListsOfAResultShareNoMemory(t *testing.T) {
	t.Parallel()
	m := newMaker()
	for range rounds / 80 {
		x := m.validScene()
		n := len(x.Solids)
		if n == 0 {
			continue
		}
		points := []impl.Point{m.sightPoint(x), {0, 0, 500}, {0, 500, 0}, {500, 0, 0}, {0, 0, -500}}
		claims, code := impl.ClaimsFor(x, points)
		if code == impl.OK {
			want := row(claims[1:])
			scribble(claims[0])
			if row(claims[1:]) != want {
				t.Fatalf("ClaimsFor %s: two claims share memory", row(x, points))
			}
		}
		moved, _ := impl.MoveInScene(x, int64(m.Intn(n)), impl.Point{0, 0, 0.5})
		read, _ := impl.ReadScene(sceneText(x))
		for _, y := range []impl.Scene{moved, read} {
			for i := range y.Solids {
				want := row(y.Solids[i+1:])
				scribble(y.Solids[i])
				if row(y.Solids[i+1:]) != want {
					t.Fatalf("%s: two solids share memory", row(x))
				}
			}
		}
	}
}

func TestP1WitnessesAtTheSameTime(t *testing.T) {
	m := newMaker()
	var calls []call
	for range 60 {
		calls = append(append(calls, witnessCallsWithCodes(m)...), witnessCallsWithoutCodes(m)...)
	}
	want := resultsOf(calls)
	var running sync.WaitGroup
	for range 8 {
		running.Go(func() {
			if !slices.Equal(resultsOf(calls), want) {
				t.Error("there were other results")
			}
		})
	}
	running.Wait()
}

// What has been claimed and checked before does not matter, and no order in which claims are checked does.
func TestP1WhatHasBeenClaimedBeforeDoesNotMatter(t *testing.T) {
	t.Parallel()
	m := newMaker()
	for range rounds / 200 {
		x := m.validScene()
		list := m.claims(x)
		for range 3 {
			y := m.validScene()
			impl.ClaimFor(y, m.sightPoint(y))
			impl.BrokenClaims(y, m.claims(y))
			same(t, "BrokenClaims "+row(x, list), all(impl.BrokenClaims(x, list)), two(wantBrokenClaims(x, list)))
			same(t, "CheckClaims "+row(x, list), all(impl.CheckClaims(x, list)), two(wantCheckClaims(x, list)))
			same(t, "SeenCorners "+row(x), all(impl.SeenCorners(x)), two(wantSeenCorners(x)))
			same(t, "SketchOf "+row(x), all(impl.SketchOf(x, 3)), two(wantSketchOf(x, 3)))
		}
	}
}

func TestP1HugeScenes(t *testing.T) {
	const many = 190000
	x := exampleScene()
	huge := impl.Scene{Camera: straight, Solids: make([]impl.Solid, 1000000)}
	large := sceneOf(impl.Solid{Corners: make([]impl.Point, 300000), Faces: make([][]int16, 90000)})
	crowd := sceneOf(slices.Repeat([]impl.Solid{tetrahedron()}, 20000)...)
	p, c := impl.Point{0, 3, 0.5}, behind(impl.Point{0, -5, 0})
	for _, y := range []impl.Scene{huge, large, crowd} {
		same(t, "ValidScene", all(impl.ValidScene(y)), all(false))
		same(t, "ClaimFor", all(impl.ClaimFor(y, p)), all(impl.Claim{}, codeInvalid))
		same(t, "CheckClaim", all(impl.CheckClaim(y, c)), all(false, codeInvalid))
		same(t, "SeenCorners", all(impl.SeenCorners(y)), all([][2]int64{}, codeInvalid))
		same(t, "SketchOf", all(impl.SketchOf(y, 16)), all([][2]impl.Spot{}, codeInvalid))
		same(t, "MoveInScene", all(impl.MoveInScene(y, 0, p)), all(impl.Scene{}, codeInvalid))
		same(t, "SceneText", all(impl.SceneText(y)), all(""))
		same(t, "SameScene", all(impl.SameScene(y, x), impl.SameScene(y, y)), all(false, true))
	}
	points, list, order := make([]impl.Point, 300000), slices.Repeat([]impl.Claim{c}, 100000), make([]int64, 1000000)
	same(t, "ClaimsFor", all(impl.ClaimsFor(x, points)), all([]impl.Claim{}, codeLimit))
	same(t, "CheckClaims", all(impl.CheckClaims(x, list)), all(int64(0), codeLimit))
	same(t, "BrokenClaims", all(impl.BrokenClaims(x, list)), all([]int64{}, codeLimit))
	same(t, "CheckOrder", all(impl.CheckOrder(x, order)), all(int64(0), int64(0), codeRange))
	points[len(points)-1][2], list[len(list)-1].At[0] = nan, infinite
	same(t, "ClaimsFor, not valid", all(impl.ClaimsFor(x, points)), all([]impl.Claim{}, codeInvalid))
	same(t, "CheckClaims, not valid", all(impl.CheckClaims(x, list)), all(int64(0), codeInvalid))
	same(t, "BrokenClaims, not valid", all(impl.BrokenClaims(x, list)), all([]int64{}, codeInvalid))
	long := impl.Claim{Kind: impl.ClSeen, At: impl.Point{0, -1, 0.5}, Free: make([]int16, 900000)}
	same(t, "a long Free", all(impl.CheckClaim(x, long)), all(false, codeOK))
	same(t, "a long Free", all(impl.SameClaim(long, long), impl.SameClaim(long, c)), all(true, false))
	long.Kind, long.At = impl.ClBehind, c.At
	same(t, "a long Free that is not used", all(impl.CheckClaim(x, long)), all(true, codeOK))
	same(t, "ReadScene", all(impl.ReadScene(strings.Repeat("solid 8\n", many/8))), all(impl.Scene{}, codeRange))
}

// saysWhatHitsSay reports whether a claim says what depths and hits say, as chapters 2 and 3 return them.
func saysWhatHitsSay(x impl.Scene, c impl.Claim) bool {
	depth, _ := impl.DepthOf(x.Camera, c.At)
	if (depth < x.Camera.Near) != (c.Kind == impl.ClBehind) {
		return false
	}
	for i, s := range x.Solids {
		hit, code := impl.FirstHit(s, x.Camera.Eye, c.At)
		hits := code == impl.OK && hit.Share < nearlyAll
		switch {
		case c.Kind == impl.ClSeen && hits:
			return false
		case c.Kind == impl.ClHidden && hits && (hit.Share < c.Share || hit.Share == c.Share && int64(i) < c.Solid):
			return false
		case c.Kind == impl.ClHidden && int64(i) == c.Solid && (!hits || hit.Face != c.Face || !impl.SameNumber(hit.Share, c.Share)):
			return false
		}
		if c.Kind == impl.ClSeen && !saysWhatFacesSay(s, c.Free[i], x.Camera.Eye, c.At) {
			return false
		}
	}
	return true
}

// saysWhatFacesSay reports whether a face is the first one that looks to both points, or -1.
func saysWhatFacesSay(s impl.Solid, free int16, p, q impl.Point) bool {
	for face := range s.Faces {
		x, _ := impl.FacePlane(s, int64(face))
		one, _ := impl.SideOf(x, p)
		other, _ := impl.SideOf(x, q)
		if one >= 0 && other >= 0 {
			return int(free) == face
		}
	}
	return free == -1
}

func TestP16ClaimsAreAcceptedAndSayWhatHitsSay(t *testing.T) {
	t.Parallel()
	m := newMaker()
	kinds := map[int8]int{}
	for range rounds / 10 {
		x := m.validScene()
		var list []impl.Point
		for range 8 {
			if p := m.sightPoint(x); impl.ValidPoint(p) {
				list = append(list, p)
			}
		}
		claims, code := impl.ClaimsFor(x, list)
		if code != impl.OK || len(claims) != len(list) {
			t.Fatalf("ClaimsFor %s: got %s", row(x, list), row(claims, code))
		}
		for i, c := range claims {
			kinds[c.Kind]++
			alone, aloneCode := impl.ClaimFor(x, list[i])
			yes, checkCode := impl.CheckClaim(x, c)
			if aloneCode != impl.OK || checkCode != impl.OK || !yes || !impl.SameClaim(alone, c) || !impl.SamePoint(c.At, list[i]) {
				t.Fatalf("ClaimFor %s: got %s, and in a list %s; accepted: %s", row(x, list[i]), row(alone, aloneCode), row(c), row(yes, checkCode))
			}
			if !saysWhatHitsSay(x, c) {
				t.Fatalf("ClaimFor %s: got %s", row(x, list[i]), row(c))
			}
		}
		_, code = impl.CheckClaims(x, claims)
		broken, brokenCode := impl.BrokenClaims(x, claims)
		if code != impl.ErrNotFound || brokenCode != impl.OK || len(broken) > 0 {
			t.Fatalf("the claims %s of %s: got the code %d, and %s", row(claims), row(x), code, row(broken, brokenCode))
		}
	}
	if kinds[1] < 1000 || kinds[2] < 1000 || kinds[3] < 500 {
		t.Errorf("there were too few claims of one kind: %v", kinds)
	}
}

// touches reports whether a way goes through a solid so that it only just touches it: nearly in a plane of it.
func touches(s impl.Solid, face int64, a, b impl.Point, share float32) bool {
	x, _ := impl.FacePlane(s, face)
	side, _ := impl.SideOf(x, impl.BetweenPoints(a, b, share))
	return near(side, sizeOf(append(slices.Clone(s.Corners), a, b)...))
}

// Of a point that is claimed to be seen, and of one that is claimed to be hidden, not both are accepted,
// unless the way only just touches a solid.
func TestP16NoPointIsBothSeenAndHidden(t *testing.T) {
	t.Parallel()
	m := newMaker()
	hides, both := 0, 0
	for range rounds / 10 {
		x := m.validScene()
		for range 6 {
			p := m.sightPoint(x)
			c, code := impl.ClaimFor(x, p)
			if code != impl.OK || c.Kind != impl.ClHidden {
				continue
			}
			hides++
			// What hides it has no face that shows that it does not, and -1 is not accepted.
			alone := impl.Scene{Camera: x.Camera, Solids: x.Solids[c.Solid : c.Solid+1]}
			for face := -1; face < len(alone.Solids[0].Faces); face++ {
				yes, code := impl.CheckClaim(alone, seen(p, int16(face)))
				if code != impl.OK || yes && (face < 0 || !touches(alone.Solids[0], int64(face), x.Camera.Eye, p, c.Share)) {
					t.Fatalf("CheckClaim %s: it is hidden by %s, and seen by the face %d", row(x, p), row(c), face)
				}
				if yes {
					both++
				}
			}
			if yes, _ := impl.CheckClaim(x, behind(p)); yes {
				t.Fatalf("CheckClaim %s: it is hidden, and behind", row(x, p))
			}
		}
	}
	if hides < 1000 || both > hides/10 {
		t.Errorf("%d points were hidden, and %d of these seen as well", hides, both)
	}
}

// Two points that see each other are seen from the place of each other, if this is ahead.
func TestP16PointsThatSeeEachOther(t *testing.T) {
	t.Parallel()
	m := newMaker()
	found := map[bool]int{}
	for range rounds / 10 {
		x := m.validScene()
		p := m.sightPoint(x)
		c, code := impl.ClaimFor(x, p)
		if code != impl.OK || c.Kind == impl.ClBehind {
			continue
		}
		yes, code := impl.SeeEachOther(x, x.Camera.Eye, p)
		back, backCode := impl.SeeEachOther(x, p, x.Camera.Eye)
		if code != impl.OK || backCode != impl.OK || yes != back || yes && c.Kind != impl.ClSeen {
			t.Fatalf("SeeEachOther %s: got %v, and back %v, but the claim is %s", row(x, p), yes, back, row(c))
		}
		share, _ := impl.SeenShare(x, p, p, 1)
		if (share == 1) != (c.Kind == impl.ClSeen) {
			t.Fatalf("SeenShare %s: got %v, but the claim is %s", row(x, p), share, row(c))
		}
		found[yes]++
	}
	if found[true] < 100 || found[false] < 100 {
		t.Errorf("there were too few points of one kind: %v", found)
	}
}

func TestP17ScenesAreReadFromTheirTexts(t *testing.T) {
	t.Parallel()
	m := newMaker()
	for range rounds / 10 {
		x := m.validScene()
		text := impl.SceneText(x)
		back, code := impl.ReadScene(text)
		if code != impl.OK || !impl.SameScene(back, x) || impl.SceneText(back) != text || !strings.HasSuffix(text, "\n") || len(text) > 9000 {
			t.Fatalf("ReadScene %s: got %s", text, row(back, code))
		}
		// It has the texts of its parts.
		texts := impl.CameraText(x.Camera) + "\n"
		for _, s := range x.Solids {
			if !strings.Contains(text, "\n"+impl.SolidText(s)) {
				t.Fatalf("SceneText %s: got %s", row(x), text)
			}
			texts += impl.SolidText(s)
		}
		if len(text) < len(texts) || !strings.HasPrefix(text, impl.CameraText(x.Camera)+"\n") {
			t.Fatalf("SceneText %s: got %s", row(x), text)
		}
	}
}

func TestP17CornersThatAreSeenHaveClaimsThatSaySo(t *testing.T) {
	t.Parallel()
	m := newMaker()
	yes, no := 0, 0
	for range rounds / 10 {
		x := m.validScene()
		pairs, code := impl.SeenCorners(x)
		if code != impl.OK {
			t.Fatalf("SeenCorners %s: got the code %d", row(x), code)
		}
		for i, s := range x.Solids {
			for k, p := range s.Corners {
				told := slices.Contains(pairs, [2]int64{int64(i), int64(k)})
				c, code := impl.ClaimFor(x, p)
				if code != impl.OK || (c.Kind == impl.ClSeen) != told {
					t.Fatalf("SeenCorners %s: got %s, but the claim for %s is %s", row(x), row(pairs), row(p), row(c, code))
				}
				if told {
					yes++
				} else {
					no++
				}
			}
		}
		if !slices.IsSortedFunc(pairs, func(a, b [2]int64) int { return slices.Compare(a[:], b[:]) }) {
			t.Fatalf("SeenCorners %s: got %s", row(x), row(pairs))
		}
	}
	if yes < 1000 || no < 1000 {
		t.Errorf("only %d corners were seen, and %d not", yes, no)
	}
}

// What is seen of a line has its parts, and its share.
func TestP17PartsThatAreSeen(t *testing.T) {
	t.Parallel()
	m := newMaker()
	for range rounds / 10 {
		x, parts := m.validScene(), 1+m.Int63n(16)
		a, b := m.lineIn(x)
		runs, code := impl.SeenParts(x, a, b, parts)
		share, shareCode := impl.SeenShare(x, a, b, parts)
		if code != shareCode {
			t.Fatalf("SeenParts %s: got the codes %d and %d", row(x, a, b, parts), code, shareCode)
		}
		last, count := int64(-2), int64(0)
		for _, run := range runs {
			if run[0] <= last+1 || run[1] < run[0] || run[1] >= parts {
				t.Fatalf("SeenParts %s: got %s", row(x, a, b, parts), row(runs))
			}
			last, count = run[1], count+run[1]-run[0]+1
		}
		if code == impl.OK && share != float32(count)/float32(parts) {
			t.Fatalf("SeenShare %s: got %v, but the runs are %s", row(x, a, b, parts), share, row(runs))
		}
	}
}

func TestP18OrdersOfSolidsAreAccepted(t *testing.T) {
	t.Parallel()
	m := newMaker()
	found, others := 0, 0
	for range rounds / 10 {
		x := impl.Scene{Solids: m.drawnSolids()}
		x.Camera = m.sightOf(x.Solids...)
		order, code := impl.OrderSolids(x.Solids, x.Camera.Eye)
		if !impl.ValidScene(x) || code != impl.OK {
			continue
		}
		i, k, code := impl.CheckOrder(x, order)
		if code != impl.ErrNotFound || i != 0 || k != 0 {
			t.Fatalf("CheckOrder %s: got %s", row(x, order), row(i, k, code))
		}
		if len(order) < 2 {
			continue
		}
		found++
		// Any other order has two places that are wrong, or is accepted as well.
		m.Shuffle(len(order), func(i, k int) { order[i], order[k] = order[k], order[i] })
		i, k, code = impl.CheckOrder(x, order)
		if code == impl.ErrNotFound {
			continue
		}
		others++
		lesser, greater := min(order[i], order[k]), max(order[i], order[k])
		first, firstCode := impl.DrawnFirst(x.Solids[lesser], x.Solids[greater], x.Camera.Eye)
		if code != impl.OK || i >= k || firstCode == impl.OK && []int64{lesser, greater}[first] != order[k] {
			t.Fatalf("CheckOrder %s: got %s", row(x, order), row(i, k, code))
		}
	}
	if found < 300 || others < 100 {
		t.Errorf("there were only %d orders, and %d that were wrong", found, others)
	}
}

// cornersIn are all corners of a scene.
func cornersIn(x impl.Scene) []impl.Point { return slices.Concat(cornersOf(x.Solids)...) }

func TestP19MovedSolidsBreakJustThoseThatAreTold(t *testing.T) {
	t.Parallel()
	m := newMaker()
	kept, lost := 0, 0
	for range rounds / 20 {
		x := m.validScene()
		if len(x.Solids) == 0 {
			continue
		}
		solid, by := m.Int63n(int64(len(x.Solids))), m.pointWithin(4)
		y, code := impl.MoveInScene(x, solid, by)
		if code != impl.OK {
			continue
		}
		for part := range slices.Chunk(cornersIn(x), impl.MaxClaims) {
			claims, code := impl.ClaimsFor(x, part)
			first, checkCode := impl.CheckClaims(x, claims)
			if code != impl.OK || checkCode != impl.ErrNotFound {
				t.Fatalf("the claims for the corners of %s: got the codes %d and %d, and %s", row(x), code, checkCode, row(claims[first]))
			}
			broken, code := impl.BrokenClaims(y, claims)
			first, checkCode = impl.CheckClaims(y, claims)
			if code != impl.OK || (checkCode == impl.ErrNotFound) != (len(broken) == 0) || len(broken) > 0 && first != broken[0] {
				t.Fatalf("BrokenClaims %s: got %s, and the first one is %s", row(y, claims), row(broken, code), row(first, checkCode))
			}
			for i, c := range claims {
				// Those that are broken are not accepted, and only those; one that says the same of the moved scene is not broken.
				yes, _ := impl.CheckClaim(y, c)
				told := slices.Contains(broken, int64(i))
				now, _ := impl.ClaimFor(y, c.At)
				if yes == told || told && impl.SameClaim(now, c) {
					t.Fatalf("BrokenClaims %s: got %s, but the claim %s", row(y, claims), row(broken), row(i, yes, now))
				}
				if told {
					lost++
				} else {
					kept++
				}
			}
		}
	}
	if kept < 1000 || lost < 1000 {
		t.Errorf("%d claims were kept, and %d broken", kept, lost)
	}
}

// A solid that is moved there and back breaks nothing, if its numbers are as they were.
func TestP19WhatIsMovedBackBreaksNothing(t *testing.T) {
	t.Parallel()
	m := newMaker()
	found := 0
	for range rounds / 20 {
		x := m.validScene()
		if len(x.Solids) == 0 {
			continue
		}
		solid, by := m.Int63n(int64(len(x.Solids))), impl.Point{float32(m.Intn(9) - 4), float32(m.Intn(9) - 4), float32(m.Intn(9) - 4)}
		there, code := impl.MoveInScene(x, solid, by)
		if code != impl.OK {
			continue
		}
		back, code := impl.MoveInScene(there, solid, wantScale(by, -1))
		if code != impl.OK || !impl.SameScene(back, x) {
			continue
		}
		found++
		corners := cornersIn(x)
		claims, _ := impl.ClaimsFor(x, corners[:min(len(corners), impl.MaxClaims)])
		if broken, code := impl.BrokenClaims(back, claims); code != impl.OK || len(broken) > 0 {
			t.Fatalf("BrokenClaims %s: got %s", row(back, claims), row(broken, code))
		}
	}
	if found < 50 {
		t.Errorf("only %d scenes were as they had been", found)
	}
}

// In one part each line of a sketch begins at a corner: there nothing is rounded.
func TestP19SketchesBeginAtCorners(t *testing.T) {
	t.Parallel()
	m := newMaker()
	found := 0
	for range rounds / 20 {
		x := m.validScene()
		lines, code := impl.SketchOf(x, 1)
		if code != impl.OK {
			t.Fatalf("SketchOf %s: got the code %d", row(x), code)
		}
		var spots []impl.Spot
		for _, p := range cornersIn(x) {
			if spot, _, code := impl.ProjectPoint(x.Camera, p); code == impl.OK {
				spots = append(spots, spot)
			}
		}
		for _, line := range lines {
			found++
			if !slices.Contains(spots, line[0]) {
				t.Fatalf("SketchOf %s: the line %s begins at no corner", row(x), row(line))
			}
		}
	}
	if found < 1000 {
		t.Errorf("there were only %d lines", found)
	}
}
