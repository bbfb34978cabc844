package place

import (
	"strings"
	"testing"
	"unsafe"

	"trellis/api"
)

func TestMarksLieOnBorders(t *testing.T) {
	for _, line := range []string{strings.Repeat("a", 5*stride), strings.Repeat("😀", 2*stride), "x" + strings.Repeat("é", 2*stride), strings.Repeat("\xe2\x82", 3*stride)} {
		all := marks(line)
		if len(all) < len(line)/(stride+utfMost)-1 {
			t.Fatalf("%d bytes have %d marks", len(line), len(all))
		}
		units, next := 0, 0
		for at, r := range line {
			if next < len(all) && all[next].at == at {
				if all[next].units != units {
					t.Fatalf("the mark at %d has %d units, want %d", at, all[next].units, units)
				}
				next++
			}
			units += width(r)
		}
		if next != len(all) {
			t.Fatalf("the mark %d is on no border", next)
		}
	}
}

const utfMost = 4

func TestNoTextIsKept(t *testing.T) {
	text := strings.Repeat("x\n", 50)
	for _, x := range []*Index{New(text), New("").Edit(api.Edit{Ins: text}), New("abc").Edit(api.Edit{Del: 3, Ins: text})} {
		if unsafe.StringData(x.text) == unsafe.StringData(text) {
			t.Error("P2: a text that was handed in is kept")
		}
	}
}
