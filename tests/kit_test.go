package tests

import (
	"fmt"
	"math"
	"math/rand"
	"strings"
	"testing"

	"loop.example/g01249/impl"
)

// row writes results so that two rows are equal if all numbers are the same, to the last bit.
func row(values ...any) string {
	words := make([]string, len(values))
	for i, value := range values {
		words[i] = word(value)
	}
	return strings.Join(words, " ")
}

func word(value any) string {
	switch x := value.(type) {
	case float32:
		if math.IsNaN(float64(x)) {
			return "nan"
		}
		return fmt.Sprintf("%08x(%v)", math.Float32bits(x), x)
	case impl.Point:
		return "[" + row(x[0], x[1], x[2]) + "]"
	case impl.Plane:
		return "{" + row(x.N, x.D) + "}"
	case impl.Spot:
		return "<" + row(x[0], x[1]) + ">"
	case impl.Camera:
		return "{" + row(x.Eye, x.At, x.Up, x.Far, x.Near) + "}"
	case impl.Frame:
		return "{" + row(x.Right, x.Up, x.Ahead) + "}"
	case [2]impl.Point:
		return "(" + row(x[0], x[1]) + ")"
	case [2]impl.Spot:
		return "(" + row(x[0], x[1]) + ")"
	case [][2]impl.Point:
		return rowOfList(x)
	case [][2]impl.Spot:
		return rowOfList(x)
	case impl.Solid:
		return "{" + row(x.Corners, x.Faces) + "}"
	case impl.Hit:
		return "{" + row(x.Face, x.Share, x.At) + "}"
	case []impl.Solid:
		return rowOfList(x)
	case []impl.Point:
		return rowOfList(x)
	case impl.Lamp:
		return "{" + row(x.At, x.Sun, x.Strong) + "}"
	case []impl.Lamp:
		return rowOfList(x)
	case impl.Map:
		return "{" + rowOfList(x[:]) + "}"
	case [4]impl.Spot:
		return rowOfList(x[:])
	case []impl.Spot:
		return rowOfList(x)
	case [2]float32:
		return "<" + row(x[0], x[1]) + ">"
	case [][2]float32:
		return rowOfList(x)
	case [][]int16:
		return rowOfList(x)
	case []int16:
		return rowOfList(x)
	case [][2]int16:
		return rowOfList(x)
	case [2]int16:
		return "(" + row(x[0], x[1]) + ")"
	case []int64:
		return rowOfList(x)
	case impl.Mark:
		return "(" + row(x[0], x[1]) + ")"
	case []impl.Mark:
		return rowOfList(x)
	case impl.Stroke:
		return "{" + row(x.A, x.B, x.Dash) + "}"
	case []impl.Stroke:
		return rowOfList(x)
	case impl.Sheet:
		return wordOfSheet(x)
	case []bool:
		return rowOfList(x)
	case impl.Scene:
		return "{" + row(x.Camera, x.Solids) + "}"
	case impl.Claim:
		return "{" + row(x.Kind, x.At, x.Solid, x.Face, x.Share, x.Free) + "}"
	case []impl.Claim:
		return rowOfList(x)
	case [2]int64:
		return "(" + row(x[0], x[1]) + ")"
	case [][2]int64:
		return rowOfList(x)
	case string:
		return fmt.Sprintf("%q", x)
	case int64, int16, int8, int, bool:
		return fmt.Sprint(x)
	}
	panic(fmt.Sprintf("row does not write a %T", value))
}

// wordOfSheet writes the rows that have ink.
func wordOfSheet(x impl.Sheet) string {
	var words []string
	for y, bits := range x {
		if bits != 0 {
			words = append(words, fmt.Sprintf("%d:%x", y, bits))
		}
	}
	return "#" + strings.Join(words, "#")
}

// rowOfList writes a list; one that is nil is written as one that is empty.
func rowOfList[A any](list []A) string {
	words := make([]string, len(list))
	for i, x := range list {
		words[i] = word(x)
	}
	return "(" + strings.Join(words, " ") + ")"
}

// same fails if the results are not the same as those wanted.
func same(t *testing.T, name string, got, want []any) {
	t.Helper()
	if g, w := row(got...), row(want...); g != w {
		t.Errorf("%s: got %s, want %s", name, g, w)
	}
}

// all makes a list of the results of a call.
func all(values ...any) []any { return values }

// otherTexts are those that a text becomes with a byte that is changed, added or gone.
func otherTexts(text string) []string {
	var others []string
	for i := range len(text) + 1 {
		if i < len(text) {
			others = append(others, text[:i]+text[i+1:])
		}
		for _, b := range []byte{0, ' ', '\n', '/', '0', '1', '9', 'a', 'f', 'A', 'g', ':', '`', 0xff} {
			others = append(others, text[:i]+string([]byte{b})+text[i:])
			if i < len(text) && text[i] != b {
				others = append(others, text[:i]+string([]byte{b})+text[i+1:])
			}
		}
	}
	return others
}

var (
	infinite  = float32(math.Inf(1))
	nan       = float32(math.NaN())
	minusZero = float32(math.Copysign(0, -1))
	tiniest   = float32(math.SmallestNonzeroFloat32)
	greatest  = float32(math.MaxFloat32)
)

// above and below are the next numbers.
func above(a float32) float32 { return math.Nextafter32(a, infinite) }
func below(a float32) float32 { return math.Nextafter32(a, -infinite) }

// limit is the size below which lengths are too small.
const limit = float32(1.0 / 1048576)

// maker makes arguments, the same ones in each run.
type maker struct{ *rand.Rand }

func newMaker() maker { return maker{rand.New(rand.NewSource(20))} }

// number makes any number: a special one, any bits, or an ordinary one.
func (m maker) number() float32 {
	special := []float32{
		0, minusZero, 1, -1, 0.5, 3, impl.MaxSize, -impl.MaxSize, above(impl.MaxSize),
		limit, below(limit), tiniest, -tiniest, 0x1p-126, below(0x1p-126),
		greatest, -greatest, infinite, -infinite, nan,
	}
	switch m.Intn(4) {
	case 0:
		return special[m.Intn(len(special))]
	case 1:
		return math.Float32frombits(m.Uint32())
	}
	return m.plain()
}

// plain makes a plain number.
func (m maker) plain() float32 {
	special := []float32{0, minusZero, 1, -1, 0.5, impl.MaxSize, -impl.MaxSize, limit, 0x1p-10, tiniest}
	switch m.Intn(8) {
	case 0:
		return special[m.Intn(len(special))]
	case 1:
		return m.within(impl.MaxSize)
	case 2:
		return m.within(0.001)
	}
	return m.within(10)
}

// within makes a number that is at most so great.
func (m maker) within(size float32) float32 {
	return float32((m.Float64()*2 - 1) * float64(size))
}

func (m maker) anyPoint() impl.Point { return impl.Point{m.number(), m.number(), m.number()} }

func (m maker) validPoint() impl.Point { return impl.Point{m.plain(), m.plain(), m.plain()} }

// point makes a point that is mostly valid.
func (m maker) point() impl.Point {
	if m.Intn(10) == 0 {
		return m.anyPoint()
	}
	return m.validPoint()
}

func (m maker) pointWithin(size float32) impl.Point {
	return impl.Point{m.within(size), m.within(size), m.within(size)}
}

// plane makes a plane that is mostly valid; some have an N that is a little too long or too short.
func (m maker) plane() impl.Plane {
	if m.Intn(20) == 0 {
		return impl.Plane{N: m.anyPoint(), D: m.number()}
	}
	x := m.validPlane()
	if m.Intn(4) == 0 {
		x.N = wantScale(x.N, 1+m.within(0.0015))
	}
	return x
}

func (m maker) validPlane() impl.Plane {
	for {
		n, code := wantUnit(m.pointWithin(10))
		if code == impl.OK {
			return impl.Plane{N: n, D: m.plain()}
		}
	}
}

// turns makes a number of turns, most of them permitted.
func (m maker) turns() float32 {
	switch m.Intn(4) {
	case 0:
		return m.number()
	case 1:
		return float32(m.Intn(8001)-4000) / 4
	case 2:
		return m.within(1000)
	}
	return m.within(2)
}

// spot makes a spot that is mostly plain.
func (m maker) spot() impl.Spot {
	if m.Intn(10) == 0 {
		return impl.Spot{m.number(), m.number()}
	}
	return impl.Spot{m.plain(), m.plain()}
}

func (m maker) spotWithin(size float32) impl.Spot { return impl.Spot{m.within(size), m.within(size)} }

// camera makes a camera that is mostly valid.
func (m maker) camera() impl.Camera {
	c := m.ordinaryCamera()
	switch m.Intn(8) {
	case 0:
		c.Eye, c.At = m.pointWithin(impl.MaxSize), m.pointWithin(impl.MaxSize)
	case 1:
		c.Eye, c.At, c.Up = m.point(), m.point(), m.point()
	case 2:
		c.Far, c.Near = m.number(), m.number()
	case 3:
		c.Far, c.Near = m.distance(), m.distance()
	case 4:
		return m.leaningCamera()
	case 5:
		return m.squareCamera()
	}
	return c
}

// ordinaryCamera makes a valid camera; Up does not nearly look ahead.
func (m maker) ordinaryCamera() impl.Camera {
	for {
		c := impl.Camera{
			Eye: m.pointWithin(10), At: m.pointWithin(10), Up: m.pointWithin(3),
			Far: 0.1 + m.Float32()*4, Near: 0.1 + m.Float32(),
		}
		ahead, code := wantUnitOfAny(numberwise(difference, c.At, c.Eye))
		up, upCode := wantUnitOfAny(c.Up)
		if code == impl.OK && upCode == impl.OK && wantLength(wantCross(ahead, up)) > 0.2 {
			return c
		}
	}
}

// distance makes a Far or a Near that is valid, some of them only just.
func (m maker) distance() float32 {
	special := []float32{1.0 / 64, above(1.0 / 64), 0.5, 1, 1000, impl.MaxSize}
	return special[m.Intn(len(special))]
}

// leaningCamera makes a camera whose Up looks ahead so nearly that its frame hardly stands square.
func (m maker) leaningCamera() impl.Camera {
	c := m.ordinaryCamera()
	by := m.within([]float32{1, 1000, 100000}[m.Intn(3)])
	c.Up = wantScale(numberwise(difference, c.At, c.Eye), by)
	if m.Intn(2) == 0 {
		c.Up = numberwise(sum, c.Up, m.pointWithin(0.001))
	}
	return c
}

// squareCamera makes a camera that looks along an axis, so that many numbers are zeros.
func (m maker) squareCamera() impl.Camera {
	c := impl.Camera{Up: m.axis(), Far: m.distance(), Near: m.distance()}
	c.Eye = impl.Point{m.nothing(), m.nothing(), m.nothing()}
	c.At = numberwise(sum, c.Eye, m.axis())
	return c
}

// axis makes a direction along an axis.
func (m maker) axis() impl.Point {
	p := impl.Point{m.nothing(), m.nothing(), m.nothing()}
	p[m.Intn(3)] = []float32{1, -1}[m.Intn(2)]
	return p
}

// nothing makes one of both zeros.
func (m maker) nothing() float32 { return []float32{0, minusZero}[m.Intn(2)] }
