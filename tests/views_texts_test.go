package tests

import (
	"strings"
	"testing"

	"loop.example/g01249/impl"
)

const (
	straightText = "camera 00000000 00000000 00000000 00000000 3f800000 00000000 00000000 00000000 3f800000 40000000 3f000000"
	tiltedText   = "camera 41200000 41a00000 41f00000 41200000 41b80000 41f00000 00000000 c0a00000 40800000 40000000 3f000000"
)

func TestCameraTexts(t *testing.T) {
	for text, c := range map[string]impl.Camera{straightText: straight, tiltedText: tilted} {
		same(t, "CameraText "+row(c), all(impl.CameraText(c)), all(text))
		same(t, "ReadCamera "+row(text), all(impl.ReadCamera(text)), all(c, codeOK))
	}
	for _, c := range badCameras() {
		same(t, "CameraText "+row(c), all(impl.CameraText(c)), all(""))
	}
}

func TestCameraTextsThatAreNone(t *testing.T) {
	texts := []string{
		"", " ", "camera", "camera ", straightText[7:], straightText[6:], " " + straightText, straightText + " ", straightText + "\n",
		straightText[:len(straightText)-1], straightText[:len(straightText)-9], straightText + "0", straightText + " 00000000",
		straightText + " " + straightText[7:], straightText + "\n" + straightText,
		// Other words.
		"Camera" + straightText[6:], "CAMERA" + straightText[6:], "cameras" + straightText[6:], "camer" + straightText[6:],
		"lamp" + straightText[6:], "cam era" + straightText[6:], "camera camera" + straightText[6:], "00000000" + straightText[6:],
		"camera-" + straightText[7:], "camera" + straightText[7:], "\tcamera" + straightText[6:],
		// Other blanks.
		strings.Replace(straightText, " ", "  ", 1), strings.Replace(straightText, " ", "\t", 1), strings.Replace(straightText, " ", "\u00a0", 1),
		strings.ReplaceAll(straightText, " ", "\n"), strings.ReplaceAll(straightText, " ", ","), strings.ReplaceAll(straightText, " ", ""),
		strings.Replace(straightText, " 3f800000", "  3f800000", 1), strings.Replace(straightText, " 3f800000", "3f800000", 1),
		strings.Replace(straightText, " 40000000", "\n40000000", 1), strings.Replace(straightText, "3f800000 40000000", "3f80000040000000", 1),
		// Other digits.
		strings.ToUpper(straightText), "camera" + strings.ToUpper(straightText[6:]), strings.Replace(straightText, "3f8", "3F8", 1),
		strings.Replace(straightText, "3f800000", "3g800000", 1), strings.Replace(straightText, "3f800000", "1", 1),
		strings.Replace(straightText, "3f800000", "+f800000", 1), strings.Replace(straightText, "00000000", "0", 1),
		strings.Replace(straightText, "3f800000", "3f80000", 1), strings.Replace(straightText, "3f800000", "3f8000000", 1),
		strings.Replace(straightText, "00000000", "0x000000", 1), "camera 0 0 0 0 1 0 0 0 1 2 0.5",
		// Cameras that are not valid: NaN and infinite numbers, numbers that are too great, Far and Near that are too small.
		strings.Replace(straightText, "00000000", "7fc00000", 1), strings.Replace(straightText, "00000000", "7fc00001", 1),
		strings.Replace(straightText, "00000000", "7f800000", 1), strings.Replace(straightText, "00000000", "49742401", 1),
		strings.Replace(straightText, "40000000", "3c7fffff", 1), strings.Replace(straightText, "3f000000", "3c7fffff", 1),
		strings.Replace(straightText, "40000000", "c0000000", 1), strings.Replace(straightText, "3f000000", "7fc00000", 1),
		"camera" + strings.Repeat(" 00000000", 11), "camera" + strings.Repeat(" 3f800000", 11),
		strings.Repeat(" ", 1000000), strings.Repeat("camera ", 100000), straightText + strings.Repeat(" 00000000", 100000),
	}
	for _, text := range texts {
		same(t, "ReadCamera "+row(text[:min(len(text), 120)]), all(impl.ReadCamera(text)), all(impl.Camera{}, codeSyntax))
	}
	// Far and Near may be just as small as they may be.
	small := strings.Replace(strings.Replace(straightText, "40000000", "3c800000", 1), "3f000000", "3c800000", 1)
	c := with(func(c *impl.Camera) { c.Far, c.Near = 1.0/64, 1.0/64 })
	same(t, "ReadCamera "+row(small), all(impl.ReadCamera(small)), all(c, codeOK))
}

func TestEachByteOfATextMatters(t *testing.T) {
	for i := range len(tiltedText) {
		for _, b := range []byte{0, ' ', '/', ':', 'g', 'A', '`', 0xff} {
			if tiltedText[i] == b {
				continue
			}
			text := tiltedText[:i] + string([]byte{b}) + tiltedText[i+1:]
			same(t, "ReadCamera "+row(text), all(impl.ReadCamera(text)), all(impl.Camera{}, codeSyntax))
		}
		text := tiltedText[:i] + tiltedText[i+1:]
		same(t, "ReadCamera "+row(text), all(impl.ReadCamera(text)), all(impl.Camera{}, codeSyntax))
	}
}
