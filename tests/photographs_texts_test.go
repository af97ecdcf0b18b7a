package tests

import (
	"strings"
	"testing"

	"loop.example/g01249/impl"
)

const (
	same3Text   = "3f800000 00000000 00000000 00000000 3f800000 00000000 00000000 00000000 3f800000"
	doubledText = "40000000 00000000 00000000 00000000 40000000 00000000 00000000 00000000 3f800000"
)

func TestMapTexts(t *testing.T) {
	for text, m := range map[string]impl.Map{
		same3Text:   same3,
		doubledText: doubled,
		// 1 to 8, and 10.
		"3f800000 40000000 40400000 40800000 40a00000 40c00000 40e00000 41000000 41200000": {1, 2, 3, 4, 5, 6, 7, 8, 10},
		// -0, subnormal numbers, and numbers that are just as great as they may be.
		"bf800000 80000000 00000001 80000001 49742400 80000000 00000000 007fffff c9742400": {
			-1, minusZero, tiniest, -tiniest, impl.MaxSize, minusZero, 0, below(0x1p-126), -impl.MaxSize,
		},
		// The determinant is only just great enough.
		"35800000 00000000 00000000 00000000 3f800000 00000000 00000000 00000000 3f800000": diagonal(limit, 1, 1),
	} {
		same(t, "MapText "+row(m), all(impl.MapText(m)), all(text))
		same(t, "ReadMap "+text, all(impl.ReadMap(text)), all(m, codeOK))
	}
	for _, m := range goodMaps() {
		text := impl.MapText(m)
		same(t, "MapText "+row(m), all(text), all(mapText(m)))
		same(t, "ReadMap "+text, all(impl.ReadMap(text)), all(m, codeOK))
	}
	for _, m := range append(badMaps(), nine(otherNaN)) {
		same(t, "MapText "+row(m), all(impl.MapText(m)), all(""))
		same(t, "ReadMap "+row(m), all(impl.ReadMap(mapText(m))), all(impl.Map{}, codeSyntax))
	}
}

func TestMapTextsThatAreNone(t *testing.T) {
	text := doubledText
	once := func(old, other string) string { return strings.Replace(text, old, other, 1) }
	for _, text := range []string{
		"", " ", "x", "map", "map " + text, strings.Repeat(" ", 8), strings.Repeat(" ", 80), "\n", text + "\n", "\n" + text, text + " ", " " + text, text + "\x00", "\ufeff" + text,
		// Other numbers of numbers.
		"3f800000", text[:71], text[:72], text[:79], text + " 00000000", text + " 3f800000", "00000000 " + text, text + " " + text, text[:80-9] + "  " + text[80-8:],
		// Other blanks.
		strings.ReplaceAll(text, " ", ""), strings.ReplaceAll(text, " ", "  "), strings.ReplaceAll(text, " ", "\t"), strings.ReplaceAll(text, " ", "\n"), strings.ReplaceAll(text, " ", ","),
		strings.ReplaceAll(text, " ", "\u00a0"), once(" ", "  "), once(" ", "\t"), once(" ", "\n"), once(" ", "\r"), once(" ", ""), once(" ", "0"), once(" ", "_"),
		// Other digits.
		strings.ToUpper(text), once("40000000", "4000000"), once("40000000", "400000000"), once("40000000", "4000000g"), once("40000000", "400000_0"), once("40000000", "4000000O"),
		once("40000000", "+4000000"), once("40000000", "-4000000"), once("40000000", "0x400000"), once("40000000", "2"), once("40000000", "4000 0000"), once("40000000", "４0000000"),
		"2 0 0 0 2 0 0 0 1", once("3f800000", "3F800000"), once("3f800000", "3f80000"), once("3f800000", "3f8000000"), once("3f800000", "3f80000\x00"),
		// Numbers that are not plain.
		once("40000000", "7fc00000"), once("40000000", "7fc00001"), once("40000000", "ffc00000"), once("40000000", "7f800000"), once("40000000", "ff800000"), once("40000000", "49742401"),
		once("00000000", "7fc00000"), once("00000000", "c9742401"), once("3f800000", "7f800000"), once("3f800000", "7f800001"),
		// Determinants that are small.
		once("40000000", "00000000"), once("40000000", "00000001"), once("3f800000", "80000000"), once("3f800000", "347fffff"),
		strings.Repeat("00000000 ", 8) + "00000000", strings.Repeat("3f800000 ", 8) + "3f800000",
		strings.Replace(same3Text, "3f800000", "357fffff", 1), strings.Replace(same3Text, "3f800000", "b57fffff", 1),
		strings.Repeat(" ", 1000000), strings.Repeat("3", 1000000), text + strings.Repeat(" 00000000", 100000),
	} {
		same(t, "ReadMap "+row(text[:min(len(text), 120)]), all(impl.ReadMap(text)), all(impl.Map{}, codeSyntax))
	}
}

func TestEachByteOfAMapTextMatters(t *testing.T) {
	// With a byte that is changed, added or gone it is the text of another map, or of none.
	for _, text := range []string{same3Text, doubledText, mapText(impl.Map{1, 2, 3, 4, 5, 6, 7, 8, 10})} {
		read := 0
		for _, other := range otherTexts(text) {
			m, code := impl.ReadMap(other)
			if code == impl.OK {
				read++
			}
			if code == impl.OK && (mapText(m) != other || !wantValidMap(m)) || code != impl.OK && (code != impl.ErrSyntax || m != impl.Map{}) {
				t.Fatalf("ReadMap %q: got %s", other, row(m, code))
			}
		}
		if read == 0 {
			t.Errorf("no other text was that of a map")
		}
	}
}
