package defn

import (
	"trellis/api"
	"trellis/regex"
	"trellis/words"
)

func all[T any](l []T, fits func(T) bool) bool {
	for _, x := range l {
		if !fits(x) {
			return false
		}
	}
	return true
}

func isName(text string) bool { return words.Spell(name(text)) != "" }

func scanFits(s api.ScanDef) bool {
	return (s.Term == "" || isName(s.Term)) && patternFits(s) &&
		all(s.In, isName) && all(s.Tests, testFits) && all(s.Acts, actFits)
}

func patternFits(s api.ScanDef) bool {
	switch s.Pat {
	case api.PatRegex:
		return regex.Shaped(s.Re) && s.Lit == ""
	case api.PatLit:
		return len(s.Re) == 0
	case api.PatEmpty, api.PatDelim, api.PatBody:
		return len(s.Re) == 0 && s.Lit == ""
	}
	return false
}

// nameFits: a name if there must be one, else nothing.
func nameFits(text string, must bool) bool {
	if must {
		return isName(text)
	}
	return text == ""
}

func testFits(t api.TestDef) bool {
	return t.Kind >= api.TestDeeper && t.Kind <= api.TestIndented && nameFits(t.Name, testNamed(t.Kind))
}

func actFits(a api.ActDef) bool {
	least, most := 0, 0
	switch a.Kind {
	case api.ActEnqueue:
		most = api.MaxNumber
	case api.ActEnter:
		least, most = -1, api.MaxNumber
	}
	return a.Kind >= api.ActMeasure && a.Kind <= api.ActClear &&
		a.N >= least && a.N <= most && nameFits(a.Name, actNamed(a.Kind))
}

func isTree(t []api.GNode) bool {
	starts := make([]int, len(t)) // by node: the place of the first node that belongs to it
	for i, n := range t {
		start, ok := nodeStart(t, i, starts)
		if !ok || !textFits(n) {
			return false
		}
		starts[i] = start
	}
	return len(t) > 0 && starts[len(t)-1] == 0
}

func textFits(n api.GNode) bool {
	return n.Op == api.GLit || nameFits(n.Text, n.Op == api.GName || n.Op == api.GField || n.Op == api.GAs)
}

// nodeStart: where the nodes begin that belong to the one at the place i, given that of all ahead of it; false: its operands are not where they must be.
func nodeStart(t []api.GNode, i int, starts []int) (int, bool) {
	n := t[i]
	switch n.Op {
	case api.GName, api.GLit, api.GEmpty:
		return i, n.A == -1 && n.B == -1
	case api.GStar, api.GPlus, api.GOpt, api.GField, api.GAs:
		if i == 0 || n.A != i-1 || n.B != -1 {
			return 0, false
		}
		return starts[n.A], n.Op != api.GAs || t[n.A].Op == api.GName || t[n.A].Op == api.GLit
	case api.GSeq, api.GAlt:
		if i == 0 || n.B != i-1 || starts[n.B] == 0 || n.A != starts[n.B]-1 {
			return 0, false
		}
		return starts[n.A], true
	}
	return 0, false
}
