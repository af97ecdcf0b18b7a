package tests

import (
	"math"
	"slices"
	"strings"
	"testing"

	"loop.example/g01249/impl"
)

const zeroRow = "0000000000000000\n"

func TestSheetTexts(t *testing.T) {
	zeros := func(n int) string { return strings.Repeat(zeroRow, n) }
	for text, x := range map[string]impl.Sheet{
		zeros(64): {},
		// The row 0 comes first, and in a row the highest bits.
		"0000000000000001\n" + zeros(63):                                   {1},
		"8000000000000000\n" + zeros(63):                                   {1 << 63},
		zeros(63) + "0000000000000001\n":                                   {63: 1},
		zeros(63) + "8000000000000000\n":                                   {63: 1 << 63},
		"0123456789abcdef\n" + zeros(1) + "fedcba9876543210\n" + zeros(61): {0x0123456789abcdef, 0, 0xfedcba9876543210},
		strings.Repeat("ffffffffffffffff\n", 64):                           fullSheet(),
		strings.Repeat("0f0f0f0f0f0f0f0f\nf0f0f0f0f0f0f0f0\n", 32):         checkered(),
	} {
		same(t, "SheetText "+row(x), all(impl.SheetText(x)), all(text))
		same(t, "ReadSheet "+row(x), all(impl.ReadSheet(text)), all(x, codeOK))
	}
}

// checkered has blocks of four marks with ink, and of four without.
func checkered() impl.Sheet {
	var x impl.Sheet
	for y := range x {
		x[y] = 0x0f0f0f0f0f0f0f0f << (4 * (y % 2))
	}
	return x
}

func TestSheetTextsThatAreNone(t *testing.T) {
	text := strings.Repeat("0123456789abcdef\n", 64)
	once := func(old, other string) string { return strings.Replace(text, old, other, 1) }
	for _, text := range []string{
		"", "x", "\n", " ", "0", strings.Repeat("\n", 64), strings.Repeat("0", 1088), strings.Repeat("\n", 1088), strings.Repeat("x", 1088), strings.Repeat(" ", 1088),
		// A line too many, or one too few, or none at the end.
		text + zeroRow, zeroRow + text, text + "\n", "\n" + text, text[17:], text[:63*17], text[:1087], text[:1087] + " ", text[:1087] + "0", text + "0", text + " ", " " + text, text + text,
		// Lines that are longer or shorter, also if the text is not.
		once("f\n", "f0\n"), once("f\n", "\n"), once("f\n", "\nf"), once("f\n0", "f0\n"), once("0123", "123"), once("0123", "00123"), once("f\n", "f \n"), once("\n", " "), once("\n", "\r\n"), once("f\n", "\r\n"), once("\n", "0"), once("\n0", "\n\n"),
		// Other digits.
		strings.ToUpper(text), once("a", "A"), once("f", "F"), once("a", "g"), once("0", " "), once("0", "+"), once("0", "-"), once("01", "0x"), once("01", "0X"), once("12", "1_"), once("0", "_"), once("0", "O"), once("01", "٠"), once("0", "\x00"), once("f", "`"), once("0", "/"), once("9", ":"),
		strings.ReplaceAll(text, "\n", "\r"), strings.ReplaceAll(text, "\n", " "), strings.ReplaceAll(text, "0123456789abcdef", "+123456789abcdef"), strings.ReplaceAll(text, "0123456789abcdef", "-000000000000001"),
		strings.Repeat("0", 1000000), strings.Repeat("\n", 1000000), strings.Repeat(text, 900),
	} {
		same(t, "ReadSheet "+row(text[:min(len(text), 40)]), all(impl.ReadSheet(text)), all(impl.Sheet{}, codeSyntax))
	}
}

func TestEachByteOfASheetTextMatters(t *testing.T) {
	x, read := checkered(), 0
	x[3], x[63] = 0x0123456789abcdef, 0
	for _, other := range otherTexts(sheetText(x)) {
		got, code := impl.ReadSheet(other)
		if code == impl.OK {
			read++
		}
		if code == impl.OK && sheetText(got) != other || code != impl.OK && (code != impl.ErrSyntax || got != impl.Sheet{}) {
			t.Fatalf("ReadSheet %q: got %s", other, row(got, code))
		}
	}
	if read < 4000 {
		t.Errorf("only %d other texts were those of a sheet", read)
	}
}

func TestStrokeTexts(t *testing.T) {
	for text, list := range map[string][]impl.Stroke{
		// No strokes have no lines.
		"":                                nil,
		"0 0 0 0 0\n":                     {{}},
		"0 0 3 1 0\n":                     {from(impl.Mark{0, 0}, impl.Mark{3, 1})},
		"1 -2 -30 400 3\n":                {{A: impl.Mark{1, -2}, B: impl.Mark{-30, 400}, Dash: impl.DsChain}},
		"500 -500 -500 500 1\n":           {{A: impl.Mark{500, -500}, B: impl.Mark{-500, 500}, Dash: impl.DsDashed}},
		"-1 -10 -100 0 2\n":               {{A: impl.Mark{-1, -10}, B: impl.Mark{-100, 0}, Dash: impl.DsDotted}},
		"10 0 0 0 0\n11 0 20 0 0\n":       {from(impl.Mark{10, 0}, impl.Mark{0, 0}), from(impl.Mark{11, 0}, impl.Mark{20, 0})},
		"7 7 7 7 0\n7 7 7 7 0\n":          {from(impl.Mark{7, 7}, impl.Mark{7, 7}), from(impl.Mark{7, 7}, impl.Mark{7, 7})},
		strings.Repeat("0 0 0 0 0\n", 60): make([]impl.Stroke, 60),
		strings.Repeat("-500 -500 -500 -500 3\n", 60): slices.Repeat([]impl.Stroke{{A: impl.Mark{-500, -500}, B: impl.Mark{-500, -500}, Dash: 3}}, 60),
	} {
		same(t, "StrokesText "+row(list), all(impl.StrokesText(list)), all(text))
		same(t, "ReadStrokes "+row(text), all(impl.ReadStrokes(text)), all(list, codeOK))
	}
	same(t, "StrokesText", all(impl.StrokesText([]impl.Stroke{})), all(""))
	for _, s := range badStrokes() {
		for _, list := range [][]impl.Stroke{{s}, {{}, s}, {s, {}}} {
			same(t, "StrokesText "+row(list), all(impl.StrokesText(list)), all(""))
			same(t, "ReadStrokes "+row(list), all(impl.ReadStrokes(strokesText(list))), all([]impl.Stroke{}, codeSyntax))
		}
	}
	many := make([]impl.Stroke, 61)
	same(t, "StrokesText 61", all(impl.StrokesText(many)), all(""))
	same(t, "ReadStrokes 61", all(impl.ReadStrokes(strokesText(many))), all([]impl.Stroke{}, codeSyntax))
}

func TestStrokeTextsThatAreNone(t *testing.T) {
	text := "1 -2 30 400 3\n-5 0 -60 7 1\n"
	once := func(old, other string) string { return strings.Replace(text, old, other, 1) }
	for _, text := range []string{
		"x", " ", "\n", "\n\n", "0", "0\n", "0 0 0 0 0", strings.Repeat("\n", 60),
		// A line too many, or none at the end.
		text + "\n", "\n" + text, text[:len(text)-1], text + "0", text + " ", " " + text, text + "0 0 0 0 0", text + "\x00", once("\n", "\n\n"), once("\n", ""), once("\n", "\r\n"), once("\n", " "), strings.ReplaceAll(text, "\n", "\r"),
		// A blank too many, or other ones.
		once(" ", "  "), once("3\n", "3 \n"), once("\n-", "\n -"), once(" ", "\t"), once(" ", "\u00a0"), once(" ", ","), once(" ", ""), once(" 400", "400"),
		// A number too many, or one too few.
		once(" 3\n", "\n"), once("3\n", "3 0\n"), once("1 ", ""), once("1 ", "1 1 "), "0 0 0 0\n", "0 0 0 0 0 0\n", "1\n", "0 0 0 0 0 0 0 0 0 0\n", "0 0 0\n0 0\n",
		// Other numbers of numbers.
		once("1", "+1"), once("1", "01"), once("-2", "-02"), once("400", "0400"), once(" 0 ", " -0 "), once(" 0 ", " +0 "), once(" 0 ", " 00 "), once("-2", "--2"), once("-2", "- 2"), once("-2", "2-"), once("-2", "\u22122"), once("-2", "-"),
		once("30", "3e1"), once("30", "0x1e"), once("30", "3_0"), once("30", "30.0"), once("30", "30."), once("30", "٣"), once("30", "a"), once("30", "\"30\""), once("400", "４"),
		once("3\n", "03\n"), once("3\n", "+3\n"), once("1\n", "-0\n"), once("1\n", "\n"), once("3\n", "0x3\n"), once("3\n", "A\n"), once("3\n", "F\n"),
		// Strokes that are not valid.
		once("1", "501"), once("-2", "-501"), once("30", "501"), once("400", "-501"), once("400", "501"), once("3\n", "4\n"), once("3\n", "-1\n"), once("3\n", "259\n"), once("3\n", "-253\n"), once("3\n", "65539\n"),
		once("1", "65537"), once("-2", "65534"), once("30", "32768"), once("30", "-32769"), once("30", "4294967326"), once("30", "18446744073709551646"), once("30", strings.Repeat("9", 400)),
		// Too many.
		strings.Repeat("0 0 0 0 0\n", 61), strings.Repeat("1 2 3 4 0\n", 100), strings.Repeat("0 0 0 0 0\n", 90000),
		strings.Repeat("\n", 1000000), strings.Repeat(" ", 1000000), strings.Repeat("0 ", 500000), strings.Repeat("0", 1000000), "0 0 0 0 " + strings.Repeat("0", 1000000) + "\n",
	} {
		same(t, "ReadStrokes "+row(text[:min(len(text), 60)]), all(impl.ReadStrokes(text)), all([]impl.Stroke{}, codeSyntax))
	}
}

func TestEachByteOfAStrokesTextMatters(t *testing.T) {
	for _, list := range [][]impl.Stroke{
		{{}}, {from(impl.Mark{10, 0}, impl.Mark{0, 0}), from(impl.Mark{11, 0}, impl.Mark{20, 0})},
		{{A: impl.Mark{1, -2}, B: impl.Mark{-30, 400}, Dash: 3}, {A: impl.Mark{500, -500}, B: impl.Mark{-500, 499}, Dash: 1}},
	} {
		read := 0
		for _, other := range otherTexts(strokesText(list)) {
			got, code := impl.ReadStrokes(other)
			if code == impl.OK {
				read++
			}
			if code == impl.OK && (strokesText(got) != other || !wantValidStrokes(got...)) || code != impl.OK && (code != impl.ErrSyntax || len(got) > 0) {
				t.Fatalf("ReadStrokes %q: got %s", other, row(got, code))
			}
		}
		if read == 0 {
			t.Errorf("no other text was that of strokes")
		}
	}
}

func TestTextsOfManySheets(t *testing.T) {
	// Each bit of a sheet is another digit of its text.
	found := map[string]bool{}
	for y := range 64 {
		for i := range 64 {
			x := impl.Sheet{}
			x[y] = uint64(math.Pow(2, float64(i)))
			text := impl.SheetText(x)
			if at := strings.IndexAny(text, "1248"); at != 17*y+15-i/4 || found[text] {
				t.Errorf("the mark %d, %d has its digit at %d", i, y, at)
			}
			found[text] = true
		}
	}
}
