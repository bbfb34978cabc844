package grammar

import (
	"slices"

	"trellis/api"
	"trellis/defn"
)

// study: a definition that is being looked through for flaws, and what is known of it.
type study struct {
	api.Defn
	names names
	gram  api.Gram
	owner []int // by Sym: the place of the rule to which it belongs
}

// examine looks for the first flaw; without one all of the study is known.
func examine(d api.Defn) (*study, api.Flaw) {
	if !defn.Shaped(d) {
		return nil, api.Flaw{Code: api.ErrShape}
	}
	s := &study{Defn: d, names: namesOf(d)}
	f := firstFlaw(s.ruleless, s.modeFlaw, s.flagFlaw, s.scanFlaw, s.ruleFlaw, s.unused, s.tooMany)
	if f.Code != api.OK {
		return nil, f
	}
	s.gram, s.owner = build(d, s.names)
	return s, firstFlaw(s.unsound, s.paintFlaw, s.foldFlaw, s.markFlaw, s.injectFlaw)
}

// firstFlaw looks no further than up to the first flaw: each look may lean on what those ahead of it have not found.
func firstFlaw(looks ...func() api.Flaw) api.Flaw {
	for _, look := range looks {
		if f := look(); f.Code != api.OK {
			return f
		}
	}
	return api.Flaw{}
}

// mode: a mode's number, -1 if there is none of that name.
func (s *study) mode(name string) int {
	return slices.IndexFunc(s.Modes, func(m api.ModeDef) bool { return m.Name == name })
}

// flag: a flag's number, -1 if there is none of that name.
func (s *study) flag(name string) int { return slices.Index(s.Flags, name) }
