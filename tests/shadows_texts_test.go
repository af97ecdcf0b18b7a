package tests

import (
	"strings"
	"testing"

	"loop.example/g01249/impl"
)

const (
	exampleLampText = "lamp 00000000 00000000 40800000 41000000"
	exampleSunText  = "sun 00000000 3f800000 3f800000 3f800000"
)

func TestLampTexts(t *testing.T) {
	for text, l := range map[string]impl.Lamp{
		exampleLampText: exampleLamp,
		exampleSunText:  exampleSun,
		"lamp 00000000 00000000 00000000 00000000": {},
		"lamp 80000000 80000000 80000000 80000000": {At: impl.Point{minusZero, minusZero, minusZero}, Strong: minusZero},
		"lamp 49742400 c9742400 00000001 447a0000": {At: impl.Point{impl.MaxSize, -impl.MaxSize, tiniest}, Strong: impl.MaxStrong},
		"sun 3a800000 80000000 80000001 80000000":  {At: impl.Point{1.0 / 1024, minusZero, -tiniest}, Sun: true, Strong: minusZero},
		"sun 40000000 40000000 40000000 00000001":  {At: impl.Point{2, 2, 2}, Sun: true, Strong: tiniest},
	} {
		same(t, "LampText "+row(l), all(impl.LampText(l)), all(text))
		same(t, "ReadLamp "+row(text), all(impl.ReadLamp(text)), all(l, codeOK))
	}
	for _, l := range goodLamps() {
		text := impl.LampText(l)
		same(t, "LampText "+row(l), all(text), all(lampText(l)))
		same(t, "ReadLamp "+row(text), all(impl.ReadLamp(text)), all(l, codeOK))
	}
	for _, l := range badLamps() {
		same(t, "LampText "+row(l), all(impl.LampText(l)), all(""))
		same(t, "ReadLamp "+row(l), all(impl.ReadLamp(lampText(l))), all(impl.Lamp{}, codeSyntax))
	}
}

func TestLampTextsThatAreNone(t *testing.T) {
	text, numbers := exampleLampText, exampleLampText[5:]
	once := func(old, other string) string { return strings.Replace(text, old, other, 1) }
	texts := []string{
		"", " ", "  ", "    ", "lamp", "sun", "lamp ", "sun ", "lamp  ", "lamp    ", "x", numbers, " " + numbers, "\n", text + "\n", "\n" + text, text + " ", " " + text,
		text[:len(text)-1], text[:len(text)-9], text[:len(text)-8], text + "0", text + " 00000000", text + " " + text, text + "\n" + exampleSunText, text + "\x00",
		// Other words.
		"Lamp " + numbers, "LAMP " + numbers, "lamps " + numbers, "lam " + numbers, "Sun " + numbers, "SUN " + numbers, "suns " + numbers, "su " + numbers,
		"camera " + numbers, "moon " + numbers, "point " + numbers, "lampsun " + numbers, "lamp sun " + numbers, "sun lamp " + numbers, "lamp lamp " + numbers,
		"lamp\x00 " + numbers, "\tlamp " + numbers, "la mp " + numbers, "0 " + numbers, "00000000 " + numbers, "ｌａｍｐ " + numbers,
		// Other blanks.
		"lamp" + numbers, "lamp  " + numbers, "lamp\t" + numbers, "lamp\n" + numbers, "lamp\u00a0" + numbers, "lamp-" + numbers, "lamp:" + numbers,
		once(" 40800000", "  40800000"), once(" 40800000", "40800000"), once(" 40800000", "\t40800000"), once(" 40800000", "\n40800000"),
		once(" 41000000", "  41000000"), once(" 41000000", "41000000"), once(" 41000000", "\t41000000"), once(" 41000000", "\n41000000"), once(" 41000000", ""),
		strings.ReplaceAll(text, " ", "\n"), strings.ReplaceAll(text, " ", ","), strings.ReplaceAll(text, " ", ""), strings.ReplaceAll(text, " ", "  "),
		// Other digits.
		strings.ToUpper(text), once("40800000", "3F800000"), once("40800000", "4080000"), once("40800000", "408000000"), once("40800000", "4080000g"), once("40800000", "+0800000"),
		once("40800000", "4"), once("40800000", "0x408000"), once("41000000", "8"), once("41000000", "4100000"), once("41000000", "410000000"), once("41000000", "4100000O"),
		once("41000000", "41 000000"), once("40800000", "4080 0000"), "lamp 0 0 4 8", "sun 0 1 1 1",
		// Lamps that are not valid: NaN and infinite numbers, numbers that are too great, and too little strength.
		once("40800000", "7fc00000"), once("40800000", "7fc00001"), once("40800000", "ffc00000"), once("40800000", "7f800000"), once("40800000", "ff800000"),
		once("40800000", "49742401"), once("40800000", "c9742401"), once("41000000", "447a0001"), once("41000000", "7f800000"), once("41000000", "7fc00000"),
		once("41000000", "7fc00001"), once("41000000", "80000001"), once("41000000", "c1000000"), once("41000000", "ff800000"),
		"sun 00000000 00000000 00000000 3f800000", "sun 80000000 80000000 80000000 3f800000", "sun 3a7fffff 00000000 00000000 3f800000",
		strings.Repeat(" ", 1000000), strings.Repeat("lamp ", 200000), text + strings.Repeat(" 00000000", 100000), strings.Repeat("0", 1000000),
	}
	for _, text := range texts {
		same(t, "ReadLamp "+row(text[:min(len(text), 120)]), all(impl.ReadLamp(text)), all(impl.Lamp{}, codeSyntax))
	}
}

func TestEachByteOfALampTextMatters(t *testing.T) {
	// With a byte that is changed, added or gone it is the text of another lamp, or of none.
	for _, text := range []string{exampleLampText, exampleSunText} {
		read := 0
		for _, other := range otherTexts(text) {
			l, code := impl.ReadLamp(other)
			if code == impl.OK {
				read++
			}
			if code == impl.OK && (lampText(l) != other || !wantValidLamp(l)) || code != impl.OK && (code != impl.ErrSyntax || l != impl.Lamp{}) {
				t.Fatalf("ReadLamp %q: got %s", other, row(l, code))
			}
		}
		if read == 0 {
			t.Errorf("no other text was that of a lamp")
		}
	}
}
