package impl

import (
	"math"
	"strings"
)

// Codes of errors.
const (
	OK          = 0
	ErrInvalid  = 1
	ErrRange    = 2
	ErrLimit    = 3
	ErrState    = 4
	ErrSyntax   = 5
	ErrNotFound = 6
	ErrBudget   = 7
	ErrProof    = 8
)

// MaxSize is the greatest size of plain numbers.
const MaxSize = 1000000

// maxTurns is the greatest size of a number of turns.
const maxTurns = 1000

const hexDigits = "0123456789abcdef"

// notANumber are the bits that stand for each NaN.
const notANumber = 0x7fc00000

// Point has three numbers.
type Point [3]float32

// Plane has all points whose product with N is D.
type Plane struct {
	N Point
	D float32
}

// CodeName returns the name of an error code.
func CodeName(code int64) string {
	names := [...]string{
		OK:          "ok",
		ErrInvalid:  "invalid",
		ErrRange:    "range",
		ErrLimit:    "limit",
		ErrState:    "state",
		ErrSyntax:   "syntax",
		ErrNotFound: "notfound",
		ErrBudget:   "budget",
		ErrProof:    "proof",
	}
	if code < 0 || code >= int64(len(names)) {
		return ""
	}
	return names[code]
}

// bitsOf returns the bits of a number, those of all NaNs being made equal:
// numbers are the same if these bits are.
func bitsOf(a float32) uint32 {
	if math.IsNaN(float64(a)) {
		return notANumber
	}
	return math.Float32bits(a)
}

// SameNumber reports whether two numbers are the same.
func SameNumber(a, b float32) bool { return bitsOf(a) == bitsOf(b) }

// IsPlain reports whether a number is plain.
func IsPlain(a float32) bool { return a >= -MaxSize && a <= MaxSize }

// isFinite reports whether a number is neither infinite nor NaN.
func isFinite(a float32) bool {
	return a >= -math.MaxFloat32 && a <= math.MaxFloat32
}

// isTooSmall reports whether a number is too small in size to divide by it.
func isTooSmall(a float32) bool { return math.Abs(float64(a)) < 1.0/1048576 }

// The methods of points are the calculations that are made with any numbers.
// Each product is converted, so that no machine joins it with a sum.

func (p Point) plus(q Point) Point {
	return Point{p[0] + q[0], p[1] + q[1], p[2] + q[2]}
}

func (p Point) less(q Point) Point {
	return Point{p[0] - q[0], p[1] - q[1], p[2] - q[2]}
}

func (p Point) times(by float32) Point {
	return Point{float32(p[0] * by), float32(p[1] * by), float32(p[2] * by)}
}

func (p Point) over(by float32) Point {
	return Point{p[0] / by, p[1] / by, p[2] / by}
}

func (p Point) dot(q Point) float32 {
	return float32(p[0]*q[0]) + float32(p[1]*q[1]) + float32(p[2]*q[2])
}

func (p Point) cross(q Point) Point {
	return Point{
		float32(p[1]*q[2]) - float32(p[2]*q[1]),
		float32(p[2]*q[0]) - float32(p[0]*q[2]),
		float32(p[0]*q[1]) - float32(p[1]*q[0]),
	}
}

// length narrows a wide square root, which is the same as rounding once:
// a wide number has more than twice as many bits.
func (p Point) length() float32 {
	return float32(math.Sqrt(float64(p.dot(p))))
}

// unit returns the point with the length 1, of a point that need not be valid.
func (p Point) unit() (Point, int64) {
	length := p.length()
	if !isFinite(length) || isTooSmall(length) {
		return Point{}, ErrState
	}
	return p.over(length).ifFinite()
}

func (p Point) bits() [3]uint32 {
	return [3]uint32{bitsOf(p[0]), bitsOf(p[1]), bitsOf(p[2])}
}

// ifFinite returns the point, or ErrState if a number of it is not finite.
func (p Point) ifFinite() (Point, int64) {
	for _, a := range p {
		if !isFinite(a) {
			return Point{}, ErrState
		}
	}
	return p, OK
}

// The operations that make a point of two points.
const (
	opSum = iota
	opDifference
	opCross
)

func operate(op int, p, q Point) Point {
	operations := [...]func(p, q Point) Point{
		opSum:        Point.plus,
		opDifference: Point.less,
		opCross:      Point.cross,
	}
	return operations[op](p, q)
}

// ValidPoint reports whether a point is valid.
func ValidPoint(p Point) bool {
	return IsPlain(p[0]) && IsPlain(p[1]) && IsPlain(p[2])
}

// SamePoint reports whether two points are the same.
func SamePoint(p, q Point) bool { return p.bits() == q.bits() }

// AddPoints returns the sums.
func AddPoints(p, q Point) Point { return operate(opSum, p, q) }

// SubPoints returns the differences.
func SubPoints(p, q Point) Point { return operate(opDifference, p, q) }

// ScalePoint returns the products with a number.
func ScalePoint(p Point, by float32) Point { return p.times(by) }

// DotOf returns the sum of the products.
func DotOf(p, q Point) float32 { return p.dot(q) }

// CrossOf returns the cross product.
func CrossOf(p, q Point) Point { return operate(opCross, p, q) }

// LengthOf returns the length of a point.
func LengthOf(p Point) float32 { return p.length() }

// UnitOf returns the point with the length 1.
func UnitOf(p Point) (Point, int64) {
	if !ValidPoint(p) {
		return Point{}, ErrInvalid
	}
	return p.unit()
}

// DistanceBetween returns the distance of two points.
func DistanceBetween(p, q Point) float32 { return p.less(q).length() }

// BetweenPoints returns a point between two points.
func BetweenPoints(p, q Point, share float32) Point {
	return p.plus(q.less(p).times(share))
}

// ValidPlane reports whether a plane is valid.
func ValidPlane(x Plane) bool {
	if !IsPlain(x.D) || !ValidPoint(x.N) {
		return false
	}
	length := x.N.length()
	return length >= 0.999 && length <= 1.001
}

// SamePlane reports whether two planes are the same.
func SamePlane(x, y Plane) bool {
	return SamePoint(x.N, y.N) && SameNumber(x.D, y.D)
}

// PlaneThrough returns the plane through three points.
func PlaneThrough(a, b, c Point) (Plane, int64) {
	if !ValidPoint(a) || !ValidPoint(b) || !ValidPoint(c) {
		return Plane{}, ErrInvalid
	}
	return planeAt(a, b.less(a).cross(c.less(a)))
}

// PlaneAt returns the plane through a point that looks in a direction.
func PlaneAt(p, n Point) (Plane, int64) {
	if !ValidPoint(p) || !ValidPoint(n) {
		return Plane{}, ErrInvalid
	}
	return planeAt(p, n)
}

// planeAt is PlaneAt for a direction that need not be valid.
func planeAt(p, n Point) (Plane, int64) {
	unit, code := n.unit()
	if code != OK {
		return Plane{}, code
	}
	x := Plane{N: unit, D: unit.dot(p)}
	if !ValidPlane(x) {
		return Plane{}, ErrState
	}
	return x, OK
}

// side is SideOf, of any numbers.
func (x Plane) side(p Point) float32 { return x.N.dot(p) - x.D }

// SideOf tells on which side of a plane a point is.
func SideOf(x Plane, p Point) (float32, int64) {
	if !ValidPlane(x) || !ValidPoint(p) {
		return 0, ErrInvalid
	}
	side := x.side(p)
	if !isFinite(side) {
		return 0, ErrState
	}
	return side, OK
}

// FootOf returns the foot of a point in a plane.
func FootOf(x Plane, p Point) (Point, int64) {
	if !ValidPlane(x) || !ValidPoint(p) {
		return Point{}, ErrInvalid
	}
	return p.less(x.N.times(x.side(p))).ifFinite()
}

// MirrorPoint returns the point on the other side of a plane.
func MirrorPoint(x Plane, p Point) (Point, int64) {
	if !ValidPlane(x) || !ValidPoint(p) {
		return Point{}, ErrInvalid
	}
	return p.less(x.N.times(float32(2 * x.side(p)))).ifFinite()
}

// MeetLine returns where a line meets a plane.
func MeetLine(x Plane, a, b Point) (Point, float32, int64) {
	if !ValidPlane(x) || !ValidPoint(a) || !ValidPoint(b) {
		return Point{}, 0, ErrInvalid
	}
	return x.meetLine(a, b)
}

// meetLine is MeetLine for points that need not be valid.
func (x Plane) meetLine(a, b Point) (Point, float32, int64) {
	e := x.N.dot(b.less(a))
	if isTooSmall(e) {
		return Point{}, 0, ErrState
	}
	share := (x.D - x.N.dot(a)) / e
	at, code := BetweenPoints(a, b, share).ifFinite()
	if code != OK || !isFinite(share) {
		return Point{}, 0, ErrState
	}
	return at, share, OK
}

// MeetPlanes returns the line in which two planes meet.
func MeetPlanes(x, y Plane) (Point, Point, int64) {
	if !ValidPlane(x) || !ValidPlane(y) {
		return Point{}, Point{}, ErrInvalid
	}
	c := x.N.cross(y.N)
	f := c.dot(c)
	if isTooSmall(f) {
		return Point{}, Point{}, ErrState
	}
	way, code := c.unit()
	if code != OK {
		return Point{}, Point{}, code
	}
	at, code := y.N.times(x.D).less(x.N.times(y.D)).cross(c).over(f).ifFinite()
	if code != OK {
		return Point{}, Point{}, code
	}
	return at, way, OK
}

// SineOf returns the sine of an angle in turns.
func SineOf(turns float32) float32 {
	if !isFinite(turns) {
		return float32(math.NaN())
	}
	g := float64(turns)
	// Where the nearest integer is 0, nothing is taken away, so that -0 keeps its sign.
	if whole := math.RoundToEven(g); whole != 0 {
		g -= whole
	}
	x := float64(6.283185307179586 * g)
	y := float64(x * x)
	s := 1.0
	for m := 14; m >= 1; m-- {
		s = 1 - float64(y/float64(2*m*(2*m+1))*s)
	}
	return float32(x * s)
}

// cosineOf returns the cosine of an angle in turns.
func cosineOf(turns float32) float32 { return SineOf(turns + 0.25) }

// TurnAround turns a point around an axis.
func TurnAround(axis Point, turns float32, p Point) (Point, int64) {
	if !ValidPoint(axis) || !ValidPoint(p) {
		return Point{}, ErrInvalid
	}
	return turnAround(axis, turns, p)
}

// turnAround is TurnAround for points that need not be valid.
func turnAround(axis Point, turns float32, p Point) (Point, int64) {
	if !(turns >= -maxTurns && turns <= maxTurns) {
		return Point{}, ErrRange
	}
	a, code := axis.unit()
	if code != OK {
		return Point{}, code
	}
	s, c := SineOf(turns), cosineOf(turns)
	d := float32(a.dot(p) * (1 - c))
	return p.times(c).plus(a.cross(p).times(s)).plus(a.times(d)).ifFinite()
}

// NumberText returns the text of a number.
func NumberText(a float32) string {
	bits := bitsOf(a)
	var text [8]byte
	for i := range text {
		text[i] = hexDigits[bits>>(28-4*i)&15]
	}
	return string(text[:])
}

// ReadNumber returns the number with a text.
func ReadNumber(text string) (float32, int64) {
	if len(text) != 8 {
		return 0, ErrSyntax
	}
	bits := uint32(0)
	for i := range len(text) {
		digit := strings.IndexByte(hexDigits, text[i])
		if digit < 0 {
			return 0, ErrSyntax
		}
		bits = bits<<4 | uint32(digit)
	}
	a := math.Float32frombits(bits)
	// Only one of the NaNs has a text.
	if bitsOf(a) != bits {
		return 0, ErrSyntax
	}
	return a, OK
}

// PointText returns the text of a point.
func PointText(p Point) string {
	if !ValidPoint(p) {
		return ""
	}
	return NumberText(p[0]) + " " + NumberText(p[1]) + " " + NumberText(p[2])
}

// ReadPoint returns the point with a text.
func ReadPoint(text string) (Point, int64) {
	var p Point
	// One part more than there should be, so that a long text is not cut in many.
	words := strings.SplitN(text, " ", len(p)+1)
	if len(words) != len(p) {
		return Point{}, ErrSyntax
	}
	for i, word := range words {
		a, code := ReadNumber(word)
		if code != OK {
			return Point{}, code
		}
		p[i] = a
	}
	if !ValidPoint(p) {
		return Point{}, ErrSyntax
	}
	return p, OK
}
