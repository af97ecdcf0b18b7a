package tests

import (
	"math"
	"strings"
	"testing"

	"loop.example/g01249/impl"
)

func TestCodeNames(t *testing.T) {
	names := map[int64]string{
		impl.OK: "ok", impl.ErrInvalid: "invalid", impl.ErrRange: "range", impl.ErrLimit: "limit",
		impl.ErrState: "state", impl.ErrSyntax: "syntax", impl.ErrNotFound: "notfound",
		impl.ErrBudget: "budget", impl.ErrProof: "proof",
		-1: "", 9: "", 256: "", 1 << 32: "", math.MinInt64: "", math.MaxInt64: "",
	}
	for code, want := range names {
		if got := impl.CodeName(code); got != want {
			t.Errorf("CodeName %d: got %q, want %q", code, got, want)
		}
	}
	for code, want := range []string{"ok", "invalid", "range", "limit", "state", "syntax", "notfound", "budget", "proof"} {
		if got := impl.CodeName(int64(code)); got != want {
			t.Errorf("CodeName %d: got %q, want %q", code, got, want)
		}
	}
}

func TestSameNumber(t *testing.T) {
	otherNaN, signallingNaN := math.Float32frombits(0xffc12345), math.Float32frombits(0x7f800001)
	// Numbers of different groups are not the same; all numbers of a group are.
	groups := [][]float32{
		{0}, {minusZero}, {1, 1}, {above(1)}, {-1}, {tiniest}, {-tiniest},
		{infinite, infinite}, {-infinite}, {nan, otherNaN, signallingNaN}, {greatest},
	}
	for i, group := range groups {
		for k, other := range groups {
			for _, a := range group {
				for _, b := range other {
					if got := impl.SameNumber(a, b); got != (i == k) {
						t.Errorf("SameNumber %s: got %v", row(a, b), got)
					}
				}
			}
		}
	}
}

func TestIsPlain(t *testing.T) {
	for _, a := range []float32{0, minusZero, tiniest, -tiniest, 1, 999999.94, impl.MaxSize, -impl.MaxSize} {
		if !impl.IsPlain(a) {
			t.Errorf("IsPlain %s: got false", row(a))
		}
	}
	for _, a := range []float32{above(impl.MaxSize), below(-impl.MaxSize), greatest, -greatest, infinite, -infinite, nan} {
		if impl.IsPlain(a) {
			t.Errorf("IsPlain %s: got true", row(a))
		}
		for i := range 3 {
			p := impl.Point{1, 2, 3}
			p[i] = a
			if impl.ValidPoint(p) {
				t.Errorf("ValidPoint %s: got true", row(p))
			}
		}
	}
	if !impl.ValidPoint(impl.Point{impl.MaxSize, -impl.MaxSize, minusZero}) {
		t.Error("ValidPoint of the greatest numbers: got false")
	}
}

func TestNumberTexts(t *testing.T) {
	texts := map[string]float32{
		"00000000": 0, "80000000": minusZero, "3f800000": 1, "bf800000": -1, "3dcccccd": 0.1,
		"00000001": tiniest, "80000001": -tiniest, "007fffff": below(0x1p-126), "00800000": 0x1p-126,
		"7f7fffff": greatest, "ff7fffff": -greatest, "7f800000": infinite, "ff800000": -infinite,
		"7fc00000": nan, "49742400": impl.MaxSize,
	}
	for text, a := range texts {
		if got := impl.NumberText(a); got != text {
			t.Errorf("NumberText %s: got %q, want %q", row(a), got, text)
		}
		same(t, "ReadNumber "+text, two(impl.ReadNumber(text)), two(a, int64(impl.OK)))
	}
	for _, bits := range []uint32{0x7f800001, 0x7fc00001, 0x7fffffff, 0xff800001, 0xffc00000, 0xffffffff} {
		if got := impl.NumberText(math.Float32frombits(bits)); got != "7fc00000" {
			t.Errorf("NumberText of the NaN %x: got %q", bits, got)
		}
	}
}

func TestNumberTextsThatAreNone(t *testing.T) {
	texts := []string{
		"", "0", "3f80000", "3f8000000", "3F800000", "7FC00000", "0x3f8000", "3f80000g", "3f80000G", "3f80 000",
		" 3f800000", "3f800000 ", "3f800000\n", "+3f80000", "-3f80000", "3f80000\x00", "/f800000", ":f800000", "`f800000",
		"7f800001", "7fbfffff", "7fc00001", "7fffffff", "ff800001", "ffc00000", "ffffffff",
		"3f8000\u00b2", "1", "1.000000", "NaN", "nan", strings.Repeat("0", 1000000),
	}
	for _, text := range texts {
		same(t, "ReadNumber "+text[:min(len(text), 20)], two(impl.ReadNumber(text)), two(float32(0), int64(impl.ErrSyntax)))
	}
}

func TestAllBitsAreRead(t *testing.T) {
	for bits := uint64(0); bits < 1<<32; bits += 65521 {
		a := math.Float32frombits(uint32(bits))
		got, code := impl.ReadNumber(impl.NumberText(a))
		if code != impl.OK || !impl.SameNumber(got, a) {
			t.Fatalf("the number %x is read as %s with the code %d", bits, row(got), code)
		}
	}
}

func TestPointTexts(t *testing.T) {
	texts := map[string]impl.Point{
		"00000000 00000000 00000000": {},
		"3f800000 c0000000 3f000000": {1, -2, 0.5},
		"80000000 00000001 80000001": {minusZero, tiniest, -tiniest},
		"49742400 c9742400 3dcccccd": {impl.MaxSize, -impl.MaxSize, 0.1},
	}
	for text, p := range texts {
		if got := impl.PointText(p); got != text {
			t.Errorf("PointText %s: got %q, want %q", row(p), got, text)
		}
		same(t, "ReadPoint "+text, two(impl.ReadPoint(text)), two(p, int64(impl.OK)))
	}
	for _, a := range []float32{above(impl.MaxSize), infinite, -infinite, nan} {
		for i := range 3 {
			var p impl.Point
			p[i] = a
			if got := impl.PointText(p); got != "" {
				t.Errorf("PointText %s: got %q", row(p), got)
			}
		}
	}
}

func TestPointTextsThatAreNone(t *testing.T) {
	texts := []string{
		"", " ", "  ", "3f800000", "3f800000 c0000000", "3f800000 c0000000 ", "3f800000 c0000000 3f000000 ",
		" 3f800000 c0000000 3f000000", "3f800000 c0000000 3f000000 3f000000", "3f800000  c0000000 3f000000",
		"3f800000\tc0000000 3f000000", "3f800000 c0000000\n3f000000", "3f800000 c0000000 3f000000\n",
		"3f800000\u00a0c0000000 3f000000", "3f800000,c0000000,3f000000", "3f800000c00000003f000000",
		"3F800000 c0000000 3f000000", "3f800000 C0000000 3f000000", "3f800000 c0000000 3f00000",
		"3f800000 c0000000 3f0000000", "3f80000 c0000000 3f000000", "3f800000 c00000000 3f00000",
		"7fc00000 00000000 00000000", "00000000 7f800000 00000000", "00000000 00000000 ff800000",
		"00000000 00000000 49742401", "c9742401 00000000 00000000", "00000000 7fc00001 00000000",
		strings.Repeat(" ", 1000000), strings.Repeat("00000000 ", 100000),
	}
	for _, text := range texts {
		same(t, "ReadPoint "+text[:min(len(text), 30)], two(impl.ReadPoint(text)), two(impl.Point{}, int64(impl.ErrSyntax)))
	}
}

func TestPointsAreReadFromTheirTexts(t *testing.T) {
	m := newMaker()
	for range rounds {
		p := m.validPoint()
		same(t, "ReadPoint "+row(p), two(impl.ReadPoint(impl.PointText(p))), two(p, int64(impl.OK)))
	}
}
