package defn

import "trellis/api"

// The words that tell kinds, in the order of the kinds' numbers.
const (
	patternWords = "empty delim body" // from api.PatEmpty on
	testWords    = "deeper shallower queued unqueued flag noflag ended indented"
	actWords     = "measure indent dedent drop enqueue dequeue enter leave set clear"
	repeatSigns  = "*+?" // from api.GStar on
)

// testNamed: does a flag's name belong to the test?
func testNamed(k api.TestKind) bool { return k == api.TestFlag || k == api.TestNoFlag }

// actNamed: does a mode's or a flag's name belong to the action?
func actNamed(k api.ActKind) bool {
	return k == api.ActEnter || k == api.ActSet || k == api.ActClear
}
