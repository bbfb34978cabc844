package document

import (
	"math"
	"strconv"
	"testing"

	"trellis/api"
)

// The version goes round: behind the greatest number comes the least one. (So many steps cannot be made: the number is set.)
func TestVersionGoesRound(t *testing.T) {
	d, _ := Open(api.Lang{}, "")
	d.steps = math.MaxInt - 70
	texts := map[int]string{d.steps: ""}
	for i := range 140 {
		d.Edit(api.Edit{Ins: strconv.Itoa(i % 10)})
		texts[d.Version()] = d.Text()
		for back := range 70 {
			v := d.Version() - back
			text, code := d.Past(v)
			if there := back <= min(i+1, 64); there && (code != api.OK || text != texts[v]) || !there && (code != api.ErrVersion || text != "") {
				t.Fatalf("23.6: at %d: Past(%d) = %q, %d, want %q", d.Version(), v, text, code, texts[v])
			}
		}
		if text, code := d.Past(d.Version() + 1); code != api.ErrVersion || text != "" {
			t.Fatalf("23.6: at %d: one version more: %q, %d", d.Version(), text, code)
		}
	}
	if d.Version() != math.MinInt+69 {
		t.Errorf("23.5: %d", d.Version())
	}
}
