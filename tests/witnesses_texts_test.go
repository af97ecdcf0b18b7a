package tests

import (
	"fmt"
	"slices"
	"strings"
	"testing"

	"loop.example/g01249/impl"
)

// tetrahedronScene is the text of a scene with one solid.
const tetrahedronScene = straightText + "\nsolid 8\n" + tetrahedronText

func TestSceneTexts(t *testing.T) {
	for text, x := range map[string]impl.Scene{
		straightText + "\n": sceneOf(),
		tetrahedronScene:    sceneOf(tetrahedron()),
		tetrahedronScene + "solid 8\n" + tetrahedronText:                                  sceneOf(tetrahedron(), tetrahedron()),
		straightText + "\nsolid 14\n" + textOf(cube()) + "solid 8\n" + tetrahedronText:    sceneOf(cube(), tetrahedron()),
		tiltedText + "\nsolid 38\n" + textOf(octagons()) + "solid 14\n" + textOf(ahead()): {Camera: tilted, Solids: []impl.Solid{octagons(), ahead()}},
		straightText + "\n" + strings.Repeat("solid 8\n"+tetrahedronText, 6):              sceneOf(slices.Repeat([]impl.Solid{tetrahedron()}, 6)...),
		straightText + "\n" + strings.Repeat("solid 38\n"+textOf(octagons()), 6):          sceneOf(slices.Repeat([]impl.Solid{octagons()}, 6)...),
	} {
		same(t, "SceneText "+row(x), all(impl.SceneText(x)), all(text))
		same(t, "ReadScene "+row(text), all(impl.ReadScene(text)), all(x, codeOK))
		got, _ := impl.ReadScene(text)
		same(t, "SameScene", all(impl.SameScene(got, x)), all(true))
	}
	// The example, and zeros with signs.
	for _, x := range []impl.Scene{exampleScene(), sceneOf(scaled(cube(), impl.Point{-1, -1, 1})), {Camera: with(func(c *impl.Camera) { c.Eye[2] = minusZero })}} {
		text := impl.SceneText(x)
		same(t, "SceneText", all(text), all(sceneText(x)))
		same(t, "ReadScene", all(impl.ReadScene(text)), all(x, codeOK))
	}
}

func TestTextsOfScenesThatAreNotValid(t *testing.T) {
	for name, x := range badScenes() {
		text := sceneText(x)
		same(t, "SceneText "+name, all(impl.SceneText(x)), all(""))
		want := codeSyntax
		if len(text) > impl.MaxSceneText {
			want = codeRange
		}
		same(t, "ReadScene "+name, all(impl.ReadScene(text)), all(impl.Scene{}, want))
	}
}

func TestSceneTextsThatAreNone(t *testing.T) {
	text := straightText + "\nsolid 14\n" + textOf(cube()) + "solid 8\n" + tetrahedronText
	same(t, "ReadScene", all(impl.ReadScene(text)), all(sceneOf(cube(), tetrahedron()), codeOK))
	once := func(old, other string) string {
		if !strings.Contains(text, old) {
			t.Errorf("there is no %q", old)
		}
		return strings.Replace(text, old, other, 1)
	}
	texts := []string{
		"", " ", "\n", "\n\n", "x", "camera", "camera\n", "solid", "solid 0\n", straightText, "\n" + straightText, straightText + "\n\n", tetrahedronText, text[len(straightText)+1:],
		// A newline too many, or too few, at the end and elsewhere.
		text + "\n", "\n" + text, strings.TrimSuffix(text, "\n"), once("\n", "\n\n"), once("solid 14\n", "solid 14\n\n"), once("solid 8\n", "\nsolid 8\n"), once("solid 8\n", "solid 8"), once("\nsolid 8", "solid 8"), once("\n", " "), once("\n", ""),
		strings.ReplaceAll(text, "\n", "\r\n"), strings.ReplaceAll(text, "\n", "\r"), text + "\x00", text + " ", text + "x", " " + text,
		// A line too many or too few.
		once("solid 8\n", "face 0 2 1\nsolid 8\n"), once("face 0 2 1\n", ""), once("face 0 2 1\n", "face 0 2 1\nface 0 2 1\n"), text + "face 0 2 1\n", text[:strings.LastIndex(text, "face")],
		once("solid 14\n", "solid 14\ncorner 00000000 00000000 00000000\n"), once("solid 14\n", ""), once("solid 8\n", ""), text + "solid 8\n", text + "solid 0\n", text + "solid\n", text + straightText + "\n", once("solid 14\n", "solid 14\nsolid 14\n"), once("solid 14\n", "solid 0\nsolid 14\n"),
		once(straightText+"\n", ""), once(straightText+"\n", straightText+"\n"+straightText+"\n"), strings.Replace(text[len(straightText)+1:], "solid 8\n", straightText+"\nsolid 8\n", 1), text + text,
		// Other counts of lines.
		once("solid 14", "solid 13"), once("solid 14", "solid 15"), once("solid 14", "solid 23"), once("solid 14", "solid 0"), once("solid 14", "solid 1"), once("solid 8", "solid 7"), once("solid 8", "solid 9"), once("solid 8", "solid 0"), once("solid 8", "solid -8"), once("solid 8", "solid 100"), once("solid 14", "solid -1"), once("solid 14", "solid"), once("solid 14", "solid "),
		once("solid 14", "solid 014"), once("solid 8", "solid 08"), once("solid 8", "solid 0000000000000000000000000008"), once("solid 14", "solid +14"), once("solid 8", "solid +8"), once("solid 8", "solid -0"), once("solid 14", "solid 1_4"), once("solid 14", "solid 0xe"), once("solid 14", "solid 0b1110"), once("solid 14", "solid 14.0"), once("solid 14", "solid 1e1"), once("solid 14", "solid e"), once("solid 8", "solid ８"), once("solid 14", "solid fourteen"),
		once("solid 14", "solid 4294967310"), once("solid 14", "solid 18446744073709551630"), once("solid 14", "solid 9223372036854775807"), once("solid 14", "solid -9223372036854775808"), once("solid 14", "solid 9223372036854775808"), once("solid 14", "solid "+strings.Repeat("9", 400)), once("solid 14", "solid 65550"),
		// Other blanks.
		once("solid 14", "solid  14"), once("solid 14", " solid 14"), once("solid 14", "solid 14 "), once("solid 14", "solid\t14"), once("solid 14", "solid14"), once("solid 14", "solid 1 4"), once("solid 14", "solid 14 0"), once("solid 14", "solid\n14"), once("solid 14", "solid\u00a014"), once("camera ", "camera  "), once("corner ", "corner  "), once("face ", "face  "), once("00000000 ", "00000000  "),
		// Other words.
		once("solid", "Solid"), once("solid", "SOLID"), once("solid 8", "Solid 8"), once("solid", "body"), once("solid", "solids"), once("solid 14", "14"), once("solid 14", "14 solid"), once("camera", "Camera"), once("camera", "scene"), once("corner", "Corner"), once("face", "Face"), strings.ToUpper(text), once("3f800000", "3F800000"),
		// Cameras and solids that are not valid, or of which the corners come last.
		once("40000000 3f000000", "40000000 00000000"), once("40000000 3f000000", "7fc00000 3f000000"), once("face 0 2 1", "face 0 1 2"), once("face 0 2 1", "face 0 2 9"), once("face 0 2 1", "face 0 2 01"), once("face 0 2 1", "face 0 2 1 "),
		straightText + "\nsolid 8\n" + tetrahedronText[strings.Index(tetrahedronText, "face"):] + tetrahedronText[:strings.Index(tetrahedronText, "face")],
		straightText + "\nsolid 14\n" + textOf(angle()), straightText + "\nsolid 16\n" + textOf(twins(tetrahedron(), moved(tetrahedron(), impl.Point{5, 0, 0}))), straightText + "\nsolid 20\n" + textOf(angle()), straightText + "\nsolid 4\n" + tetrahedronText[:strings.Index(tetrahedronText, "face")],
		// More solids than there may be.
		straightText + "\n" + strings.Repeat("solid 8\n"+tetrahedronText, 7), straightText + "\n" + strings.Repeat("solid 8\n"+tetrahedronText, 50),
	}
	for _, text := range texts {
		same(t, "ReadScene "+row(text[:min(len(text), 3000)]), all(impl.ReadScene(text)), all(impl.Scene{}, codeSyntax))
	}
	// A text that ends anywhere ahead of its end is that of a scene just where a solid ends.
	for n := range len(text) {
		got, code := impl.ReadScene(text[:n])
		if code == codeOK && sceneText(got) != text[:n] || code != codeOK && code != codeSyntax {
			t.Errorf("ReadScene of %d bytes: got %s", n, row(got, code))
		}
	}
}

func TestSceneTextsThatAreTooLong(t *testing.T) {
	parts := []string{"x", "\n", " ", "solid 8\n", "solid 0\n", "solid 99999999\n", straightText + "\n", "solid 8\n" + tetrahedronText, tetrahedronText, "face 0 2 1\n"}
	for _, start := range []string{"", straightText + "\n", tetrahedronScene, straightText + "\nsolid 9999\n"} {
		for _, part := range parts {
			for n, want := range map[int]int64{30000: codeSyntax, 30001: codeRange, 29999: codeSyntax, 40000: codeRange} {
				text := (start + strings.Repeat(part, n/len(part)+1))[:n]
				same(t, fmt.Sprintf("%d bytes of %q, %q", n, start, part), all(impl.ReadScene(text)), all(impl.Scene{}, want))
			}
		}
	}
	// ErrRange is ahead of ErrSyntax, however long it is.
	same(t, "much too long", all(impl.ReadScene(strings.Repeat("x", 1000000))), all(impl.Scene{}, codeRange))
	same(t, "much too long", all(impl.ReadScene(tetrahedronScene+strings.Repeat("\n", 1000000))), all(impl.Scene{}, codeRange))
}

func TestEachByteOfASceneTextMatters(t *testing.T) {
	t.Parallel()
	read := 0
	for _, other := range otherTexts(tetrahedronScene) {
		got, code := impl.ReadScene(other)
		if code == impl.OK {
			read++
		}
		if code == impl.OK && (sceneText(got) != other || codeOfScene(got) != codeOK) || code != impl.OK && (code != impl.ErrSyntax || row(got) != row(impl.Scene{})) {
			t.Fatalf("ReadScene %q: got %s", other, row(got, code))
		}
	}
	if read < 100 {
		t.Errorf("only %d other texts were those of a scene", read)
	}
}
