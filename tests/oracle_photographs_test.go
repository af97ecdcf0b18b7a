package tests

import (
	"math"
	"strings"

	"loop.example/g01249/impl"
)

// This is the calculation of chapter 5 a second time, by the steps of oracle_test.go.

func wantSmall(a float32) bool { return !(math.Abs(float64(a)) >= float64(limit)) }

// opposite changes the sign of a number, also of a zero.
func opposite(a float32) float32 { return math.Float32frombits(math.Float32bits(a) ^ 1<<31) }

// crosswise returns a * b - c * d.
func crosswise(a, b, c, d float32) float32 { return difference(product(a, b), product(c, d)) }

func plainSpots(list ...impl.Spot) bool {
	for _, s := range list {
		if !plain(s[0], s[1]) {
			return false
		}
	}
	return true
}

func wantDet(m impl.Map) float32 {
	first := product(m[0], crosswise(m[4], m[8], m[5], m[7]))
	second := product(m[1], crosswise(m[3], m[8], m[5], m[6]))
	third := product(m[2], crosswise(m[3], m[7], m[4], m[6]))
	return sum(difference(first, second), third)
}

func wantValidMap(m impl.Map) bool { return plain(m[:]...) && !wantSmall(wantDet(m)) }

// wantGreatest returns the index of the first number with the greatest size.
func wantGreatest(m impl.Map) int {
	greatest := 0
	for i := 8; i >= 0; i-- {
		if math.Abs(float64(m[i])) >= math.Abs(float64(m[greatest])) {
			greatest = i
		}
	}
	for i := range greatest {
		if math.Abs(float64(m[i])) == math.Abs(float64(m[greatest])) {
			return i
		}
	}
	return greatest
}

// wantMadeMap returns a map that has been made, scaled, or ErrState.
func wantMadeMap(m impl.Map) (impl.Map, int64) {
	if !plain(m[:]...) {
		return impl.Map{}, impl.ErrState
	}
	var scaled impl.Map
	for i := range m {
		scaled[i] = quotient(m[i], m[wantGreatest(m)])
	}
	if !wantValidMap(scaled) {
		return impl.Map{}, impl.ErrState
	}
	return scaled, impl.OK
}

func wantScaledMap(m impl.Map) (impl.Map, int64) {
	if !plain(m[:]...) {
		return impl.Map{}, impl.ErrInvalid
	}
	return wantMadeMap(m)
}

// wantSum returns (a * x + b * y) + c.
func wantSum(a, b, c float32, s impl.Spot) float32 {
	return sum(sum(product(a, s[0]), product(b, s[1])), c)
}

// wantSent returns where a spot goes that a valid map sends.
func wantSent(m impl.Map, s impl.Spot) (impl.Spot, int64) {
	w := wantSum(m[6], m[7], m[8], s)
	if wantSmall(w) {
		return impl.Spot{}, impl.ErrState
	}
	return impl.Spot{quotient(wantSum(m[0], m[1], m[2], s), w), quotient(wantSum(m[3], m[4], m[5], s), w)}, impl.OK
}

func wantApplyMap(m impl.Map, s impl.Spot) (impl.Spot, int64) {
	if !wantValidMap(m) || !plainSpots(s) {
		return impl.Spot{}, impl.ErrInvalid
	}
	return wantSent(m, s)
}

func wantAllSent(m impl.Map, list []impl.Spot) ([]impl.Spot, int64) {
	var sent []impl.Spot
	for _, s := range list {
		to, code := wantSent(m, s)
		if code != impl.OK {
			return nil, code
		}
		sent = append(sent, to)
	}
	return sent, impl.OK
}

func wantApplyMany(m impl.Map, list []impl.Spot) ([]impl.Spot, int64) {
	if !wantValidMap(m) || !plainSpots(list...) {
		return nil, impl.ErrInvalid
	}
	if len(list) > 100 {
		return nil, impl.ErrLimit
	}
	return wantAllSent(m, list)
}

func wantComposed(m, n impl.Map) (impl.Map, int64) {
	if !wantValidMap(m) || !wantValidMap(n) {
		return impl.Map{}, impl.ErrInvalid
	}
	var both impl.Map
	for i := range 3 {
		for k := range 3 {
			first, second, third := product(m[3*i], n[k]), product(m[3*i+1], n[3+k]), product(m[3*i+2], n[6+k])
			both[3*i+k] = sum(sum(first, second), third)
		}
	}
	return wantMadeMap(both)
}

func wantInverted(m impl.Map) (impl.Map, int64) {
	if !wantValidMap(m) {
		return impl.Map{}, impl.ErrInvalid
	}
	return wantMadeMap(impl.Map{
		crosswise(m[4], m[8], m[5], m[7]), crosswise(m[2], m[7], m[1], m[8]), crosswise(m[1], m[5], m[2], m[4]),
		crosswise(m[5], m[6], m[3], m[8]), crosswise(m[0], m[8], m[2], m[6]), crosswise(m[2], m[3], m[0], m[5]),
		crosswise(m[3], m[7], m[4], m[6]), crosswise(m[1], m[6], m[0], m[7]), crosswise(m[0], m[4], m[1], m[3]),
	})
}

// elimination is what is found on the way, for counting.
type elimination struct {
	rows [][]float32
	// changes counts the rows that have changed places, and ties the columns with several greatest sizes.
	changes, ties int
}

func wantRows(from, to [4]impl.Spot) [][]float32 {
	var rows [][]float32
	for i := range 4 {
		x, y := from[i][0], from[i][1]
		for k, goal := range to[i] {
			row := []float32{x, y, 1, 0, 0, 0, opposite(product(x, goal)), opposite(product(y, goal)), goal}
			if k == 1 {
				row = append([]float32{0, 0, 0, x, y, 1}, row[6:]...)
			}
			rows = append(rows, row)
		}
	}
	return rows
}

// wantStep goes through one column, and reports whether it has a number that is not small.
func (e *elimination) wantStep(k int) bool {
	size := func(r int) float64 { return math.Abs(float64(e.rows[r][k])) }
	greatest, count := k, 0
	for r := 7; r >= k; r-- {
		switch {
		case size(r) > size(greatest):
			greatest, count = r, 1
		case size(r) == size(greatest):
			greatest = r
			count++
		}
	}
	if wantSmall(e.rows[greatest][k]) {
		return false
	}
	if greatest != k {
		e.changes++
	}
	if count > 1 {
		e.ties++
	}
	e.rows[k], e.rows[greatest] = e.rows[greatest], e.rows[k]
	for r := k + 1; r < 8; r++ {
		f := quotient(e.rows[r][k], e.rows[k][k])
		for i := k + 1; i < 9; i++ {
			e.rows[r][i] = difference(e.rows[r][i], product(f, e.rows[k][i]))
		}
	}
	return true
}

func wantMapFromFour(from, to [4]impl.Spot) (impl.Map, int64) {
	if !plainSpots(from[:]...) || !plainSpots(to[:]...) {
		return impl.Map{}, impl.ErrInvalid
	}
	e := elimination{rows: wantRows(from, to)}
	for k := range 8 {
		if !e.wantStep(k) {
			return impl.Map{}, impl.ErrState
		}
	}
	m := impl.Map{0, 0, 0, 0, 0, 0, 0, 0, 1}
	for k := 7; k >= 0; k-- {
		number := e.rows[k][8]
		for i := k + 1; i < 8; i++ {
			number = difference(number, product(e.rows[k][i], m[i]))
		}
		m[k] = quotient(number, e.rows[k][k])
	}
	if !wantValidMap(m) {
		return impl.Map{}, impl.ErrState
	}
	return m, impl.OK
}

func wantMapOfPlane(c impl.Camera, o, a, b impl.Point) (impl.Map, int64) {
	f, valid := wantFrame(c, o, a, b)
	if !valid {
		return impl.Map{}, impl.ErrInvalid
	}
	e := wantLess(o, c.Eye)
	return wantMadeMap(impl.Map{
		product(c.Far, wantDot(f.Right, a)), product(c.Far, wantDot(f.Right, b)), product(c.Far, wantDot(f.Right, e)),
		product(c.Far, wantDot(f.Up, a)), product(c.Far, wantDot(f.Up, b)), product(c.Far, wantDot(f.Up, e)),
		wantDot(f.Ahead, a), wantDot(f.Ahead, b), wantDot(f.Ahead, e),
	})
}

func wantTurnsLeft(a, b, c impl.Spot) float32 {
	return crosswise(difference(b[0], a[0]), difference(c[1], a[1]), difference(b[1], a[1]), difference(c[0], a[0]))
}

func wantConvexFour(list [4]impl.Spot) bool {
	turns := []float32{
		wantTurnsLeft(list[0], list[1], list[2]), wantTurnsLeft(list[1], list[2], list[3]),
		wantTurnsLeft(list[2], list[3], list[0]), wantTurnsLeft(list[3], list[0], list[1]),
	}
	toLeft, toRight := true, true
	for _, turn := range turns {
		toLeft = toLeft && turn > 0 && !wantSmall(turn)
		toRight = toRight && turn < 0 && !wantSmall(turn)
	}
	return toLeft || toRight
}

func wantAreaOfFour(list [4]impl.Spot) float32 {
	total := float32(0)
	for _, pair := range [][2]impl.Spot{{list[0], list[1]}, {list[1], list[2]}, {list[2], list[3]}, {list[3], list[0]}} {
		a, b := pair[0], pair[1]
		total = sum(total, crosswise(a[0], b[1], a[1], b[0]))
	}
	return product(0.5, total)
}

func wantLineThrough(a, b impl.Spot) (impl.Point, int64) {
	if !plainSpots(a, b) {
		return impl.Point{}, impl.ErrInvalid
	}
	p, q := difference(a[1], b[1]), difference(b[0], a[0])
	if wantSmall(p) && wantSmall(q) {
		return impl.Point{}, impl.ErrState
	}
	return impl.Point{p, q, crosswise(a[0], b[1], a[1], b[0])}, impl.OK
}

func wantMeetSpots(l, m impl.Point) (impl.Spot, int64) {
	if !plain(l[:]...) || !plain(m[:]...) {
		return impl.Spot{}, impl.ErrInvalid
	}
	w := crosswise(l[0], m[1], l[1], m[0])
	if wantSmall(w) {
		return impl.Spot{}, impl.ErrState
	}
	return impl.Spot{quotient(crosswise(l[1], m[2], l[2], m[1]), w), quotient(crosswise(l[2], m[0], l[0], m[2]), w)}, impl.OK
}

// wantAxis returns the coordinate in which two spots are farther from each other.
func wantAxis(a, last impl.Spot) int {
	if math.Abs(float64(difference(last[0], a[0]))) >= math.Abs(float64(difference(last[1], a[1]))) {
		return 0
	}
	return 1
}

func wantCrossRatio(a, b, c, d impl.Spot) (float32, int64) {
	if !plainSpots(a, b, c, d) {
		return 0, impl.ErrInvalid
	}
	k := wantAxis(a, d)
	by := product(difference(c[k], b[k]), difference(d[k], a[k]))
	if wantSmall(by) {
		return 0, impl.ErrState
	}
	return quotient(product(difference(c[k], a[k]), difference(d[k], b[k])), by), impl.OK
}

func wantMeasureFrom(a, b, far, p impl.Spot, known float32) (float32, int64) {
	if !plainSpots(a, b, far, p) || !plain(known) {
		return 0, impl.ErrInvalid
	}
	k := wantAxis(a, far)
	by := product(difference(b[k], a[k]), difference(far[k], p[k]))
	if wantSmall(by) {
		return 0, impl.ErrState
	}
	return quotient(product(known, product(difference(p[k], a[k]), difference(far[k], b[k]))), by), impl.OK
}

func wantStretchAt(m impl.Map, s impl.Spot) (float32, int64) {
	if !wantValidMap(m) || !plainSpots(s) {
		return 0, impl.ErrInvalid
	}
	w := wantSum(m[6], m[7], m[8], s)
	if wantSmall(w) {
		return 0, impl.ErrState
	}
	return quotient(wantDet(m), product(product(w, w), w)), impl.OK
}

func wantGridOf(m impl.Map, n int64) ([]impl.Spot, int64) {
	if !wantValidMap(m) {
		return nil, impl.ErrInvalid
	}
	if n < 1 || n > 9 {
		return nil, impl.ErrRange
	}
	var grid []impl.Spot
	for at := range (n + 1) * (n + 1) {
		grid = append(grid, impl.Spot{quotient(float32(at/(n+1)), float32(n)), quotient(float32(at%(n+1)), float32(n))})
	}
	return wantAllSent(m, grid)
}

func wantWorstOff(m impl.Map, from, to []impl.Spot) (float32, int64, int64) {
	if !wantValidMap(m) || !plainSpots(from...) || !plainSpots(to...) {
		return 0, 0, impl.ErrInvalid
	}
	if len(from) != len(to) || len(from) == 0 {
		return 0, 0, impl.ErrRange
	}
	if len(from) > 100 {
		return 0, 0, impl.ErrLimit
	}
	sent, code := wantAllSent(m, from)
	if code != impl.OK {
		return 0, 0, code
	}
	greatest, index := float32(0), int64(0)
	for i := len(sent) - 1; i >= 0; i-- {
		x, y := difference(sent[i][0], to[i][0]), difference(sent[i][1], to[i][1])
		if distance := root(sum(product(x, x), product(y, y))); distance >= greatest {
			greatest, index = distance, int64(i)
		}
	}
	return greatest, index, impl.OK
}

// mapText is the text of a map that need not be valid.
func mapText(m impl.Map) string {
	var words []string
	for _, a := range m {
		words = append(words, impl.NumberText(a))
	}
	return strings.Join(words, " ")
}
