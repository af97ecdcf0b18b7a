package tests

import (
	"strings"
	"testing"

	"loop.example/g01249/impl"
)

const tetrahedronText = "corner 00000000 00000000 00000000\n" +
	"corner 3f800000 00000000 00000000\n" +
	"corner 00000000 3f800000 00000000\n" +
	"corner 00000000 00000000 3f800000\n" +
	"face 0 2 1\nface 0 1 3\nface 1 2 3\nface 2 0 3\n"

func TestSolidTexts(t *testing.T) {
	same(t, "SolidText", all(impl.SolidText(tetrahedron())), all(tetrahedronText))
	same(t, "ReadSolid", all(impl.ReadSolid(tetrahedronText)), all(tetrahedron(), codeOK))
	for name, s := range goodSolids() {
		text := impl.SolidText(s)
		same(t, "SolidText of "+name, all(text), all(textOf(s)))
		same(t, "ReadSolid of "+name, all(impl.ReadSolid(text)), all(s, codeOK))
		// Indices of two digits, and zeros with signs, are read as well.
		got, _ := impl.ReadSolid(text)
		if !impl.SameSolid(got, s) {
			t.Errorf("ReadSolid of %s: got %s", name, row(got))
		}
	}
	for name, s := range badSolids() {
		text := textOf(s)
		want := codeSyntax
		if len(text) > impl.MaxSolidText {
			want = codeRange
		}
		same(t, "ReadSolid of "+name, all(impl.ReadSolid(text)), all(impl.Solid{}, want))
	}
}

func TestSolidTextsThatAreNone(t *testing.T) {
	text := tetrahedronText
	corners, faces := text[:strings.Index(text, "face")], text[strings.Index(text, "face"):]
	once := func(old, other string) string { return strings.Replace(text, old, other, 1) }
	texts := []string{
		"", " ", "\n", "x", "corner", "face", "corner\n", "face\n", corners, faces, "solid", "solid\n" + text, text + "x",
		// Missing newlines, or more of them.
		strings.TrimSuffix(text, "\n"), text + "\n", "\n" + text, once("\n", "\n\n"), once("\n", ""), once("\n", " "),
		strings.ReplaceAll(text, "\n", "\r\n"), strings.ReplaceAll(text, "\n", "\r"), text + "\x00", once("\nface", "face"),
		strings.ReplaceAll(text, "\n", ";"), strings.ReplaceAll(text, "\n", ""),
		// Other words.
		once("corner", "Corner"), once("corner", "corners"), once("corner", "point"), once("corner ", ""), once("corner", ""), once("face", "Face"),
		once("face", "faces"), once("face", "side"), once("face ", ""), once("face", "corner"), once("corner", "face"), once("face", "face face"),
		// Other blanks.
		once(" ", "  "), once(" ", "\t"), once(" ", ""), once("face ", "face  "), once("face 0 2", "face 0  2"), once("face 0 2", "face 0\t2"),
		once("0 2 1\n", "0 2 1 \n"), once("00000000\n", "00000000 \n"), " " + text, once("face", " face"), once("face 0 2 1", "face 0 21"),
		once("face 0 2 1", "face 021"), once("face 0 2 1", "face0 2 1"), strings.ReplaceAll(text, " ", ","), once("face 0 2 1", "face 0,2,1"),
		// Other digits.
		once("face 0 2 1", "face 0 2 01"), once("face 0 2 1", "face 0 +2 1"), once("face 0 2 1", "face -0 2 1"), once("face 0 2 1", "face 00 2 1"),
		once("face 0 2 1", "face 0 2.0 1"), once("face 0 2 1", "face 0 0x2 1"), once("face 0 2 1", "face 0 a 1"), once("face 0 2 1", "face 0 2_ 1"),
		once("face 0 2 1", "face 0 2 1e0"), once("face 0 2 1", "face 0 ２ 1"), once("face 0 2 1", "face 0 65538 1"), once("face 0 2 1", "face 0 -65534 1"),
		once("face 0 2 1", "face 0 4294967298 1"), once("face 0 2 1", "face 0 18446744073709551618 1"), once("3f800000", "3F800000"), once("3f800000", "1"),
		once("3f800000", "3f80000"), once("3f800000", "3f8000000"), once("3f800000", "3f800000 00000000"), once("3f800000 ", ""), once("3f800000", "7fc00000"),
		once("3f800000", "7f800000"), once("3f800000", "7fc00001"), once("3f800000", "49742401"),
		// Lines in another order, or more or less of them.
		faces + corners, once("face", "corner 00000000 00000000 00000000\nface"), text + "corner 00000000 00000000 00000000\n",
		text + corners, text + faces, text + text, once("face 0 2 1\n", ""), once("corner 00000000 00000000 00000000\n", ""), text + "face\n", text + "face \n",
		corners + "face 0 2 1\n" + faces, corners + faces[:11] + corners + faces[11:],
		"face 0 2 1\n" + corners + faces[11:],
		// Solids that are not valid.
		once("face 0 2 1", "face 0 1 2"), once("face 0 2 1", "face 0 2 4"), once("face 0 2 1", "face 0 2 -1"), once("face 0 2 1", "face 0 2"),
		once("face 0 2 1", "face 0 2 1 3"), once("face 0 2 1", "face 0 2 1 1"), once("face 0 2 1", "face 0 2 1 0"), once("3f800000", "00000000"),
	}
	for _, text := range texts {
		same(t, "ReadSolid "+row(text), all(impl.ReadSolid(text)), all(impl.Solid{}, codeSyntax))
	}
}

func TestSolidTextsThatAreTooLong(t *testing.T) {
	for _, text := range []string{strings.Repeat("x", 4000), strings.Repeat("\n", 4000), strings.Repeat(" ", 4000), strings.Repeat("face 0 2 1\n", 363), strings.Repeat("face\n", 800)} {
		same(t, "just as long", all(impl.ReadSolid(text[:min(len(text), 4000)])), all(impl.Solid{}, codeSyntax))
	}
	// ErrRange is ahead of ErrSyntax.
	for _, n := range []int{4001, 5000, 1000000} {
		for _, part := range []string{"x", "\n", " ", "corner 00000000 00000000 00000000\n", "face 0 2 1\n", tetrahedronText} {
			text := strings.Repeat(part, n/len(part)+1)[:n]
			same(t, "too long", all(impl.ReadSolid(text)), all(impl.Solid{}, codeRange))
		}
	}
	same(t, "too long", all(impl.ReadSolid(tetrahedronText+strings.Repeat("\n", 4001-len(tetrahedronText)))), all(impl.Solid{}, codeRange))
	same(t, "just as long", all(impl.ReadSolid(tetrahedronText+strings.Repeat("\n", 4000-len(tetrahedronText)))), all(impl.Solid{}, codeSyntax))
}

func TestEachByteOfASolidTextMatters(t *testing.T) {
	// With a byte that is changed or gone it is the text of another solid, or of none.
	for _, text := range []string{tetrahedronText, textOf(prism(6))} {
		read := 0
		for i := range len(text) {
			others := []string{text[:i] + text[i+1:]}
			for _, b := range []byte{0, ' ', '\n', '/', '0', '1', '9', 'a', 'A', 'g', 0xff} {
				if text[i] != b {
					others = append(others, text[:i]+string([]byte{b})+text[i+1:], text[:i]+string([]byte{b})+text[i:])
				}
			}
			for _, other := range others {
				s, code := impl.ReadSolid(other)
				if code == impl.OK {
					read++
				}
				if code == impl.OK && (textOf(s) != other || !wantValid(s)) || code != impl.OK && code != impl.ErrSyntax || code != impl.OK && row(s) != row(impl.Solid{}) {
					t.Fatalf("ReadSolid %q: got %s", other, row(s, code))
				}
			}
		}
		if read == 0 {
			t.Errorf("no other text was that of a solid")
		}
	}
}
