package grammar

import (
	"strings"

	"trellis/api"
)

// scanRules: the scanning rules of a definition without a flaw.
func (s *study) scanRules() []api.Rule {
	var out []api.Rule
	for i, text := range s.names.lits.texts {
		out = append(out, api.Rule{Term: 1 + i, Pat: api.PatLit, Lit: strings.Clone(text), In: s.modesOf(nil)})
	}
	for _, x := range s.Scans {
		out = append(out, s.scanRule(x))
	}
	return out
}

func (s *study) scanRule(x api.ScanDef) api.Rule {
	r := api.Rule{Term: -1, Pat: x.Pat, Re: append([]api.ReNode(nil), x.Re...), Lit: strings.Clone(x.Lit), In: s.modesOf(x.In)}
	if x.Term != "" {
		r.Term = s.names.tokenTerm(x.Term)
	}
	for _, t := range x.Tests {
		r.Tests = append(r.Tests, s.test(t))
	}
	for _, a := range x.Acts {
		r.Acts = append(r.Acts, s.act(a))
	}
	return r
}

// modesOf: the numbers of the modes in which a rule with these stands.
func (s *study) modesOf(in []string) []int {
	var out []int
	for _, name := range in {
		out = append(out, s.mode(name))
	}
	if len(in) > 0 {
		return out
	}
	out = append(out, -1)
	for i, m := range s.Modes {
		if m.Open {
			out = append(out, i)
		}
	}
	return out
}

func (s *study) test(t api.TestDef) api.Test {
	out := api.Test{Kind: t.Kind}
	if t.Kind == api.TestFlag || t.Kind == api.TestNoFlag {
		out.N = s.flag(t.Name)
	}
	return out
}

func (s *study) act(a api.ActDef) api.Act {
	switch a.Kind {
	case api.ActSet, api.ActClear:
		return api.Act{Kind: a.Kind, N: s.flag(a.Name)}
	case api.ActEnter:
		return api.Act{Kind: a.Kind, N: a.N, M: s.mode(a.Name)}
	}
	return api.Act{Kind: a.Kind, N: a.N}
}
