package grammar

import (
	"trellis/api"
	"trellis/regex"
)

func (s *study) ruleless() api.Flaw {
	if len(s.Rules) == 0 {
		return api.Flaw{Code: api.ErrNoRule}
	}
	return api.Flaw{}
}

func (s *study) modeFlaw() api.Flaw {
	return rowFlaw(api.PartMode, len(s.Modes), api.MaxModes, func(i int) string { return s.Modes[i].Name })
}

func (s *study) flagFlaw() api.Flaw {
	return rowFlaw(api.PartFlag, len(s.Flags), api.MaxFlags, func(i int) string { return s.Flags[i] })
}

// rowFlaw: what is wrong with names that are numbers of a state: one twice, or too many.
func rowFlaw(part api.Part, n, most int, name func(int) string) api.Flaw {
	seen := newRoll()
	for i := range n {
		switch {
		case !seen.take(name(i)):
			return api.Flaw{Code: api.ErrTwice, Part: part, Index: i}
		case i >= most:
			return api.Flaw{Code: api.ErrTerms, Part: part, Index: i}
		}
	}
	return api.Flaw{}
}

func (s *study) scanFlaw() api.Flaw {
	for i, x := range s.Scans {
		if code := s.scanCode(x); code != api.OK {
			return api.Flaw{Code: code, Part: api.PartScan, Index: i}
		}
	}
	return api.Flaw{}
}

func (s *study) scanCode(x api.ScanDef) api.Errno {
	switch {
	case !s.knows(x):
		return api.ErrUnknown
	case twice(x.In):
		return api.ErrTwice
	case x.Pat == api.PatRegex && regex.Nullable(x.Re):
		return api.ErrNullable
	case x.Pat == api.PatLit && !litFits(x.Lit):
		return api.ErrLit
	case x.Pat == api.PatEmpty && x.Term == "":
		return api.ErrPattern
	}
	return api.OK
}

// knows: are the modes and flags that it names the definition's?
func (s *study) knows(x api.ScanDef) bool {
	for _, name := range x.In {
		if s.mode(name) < 0 {
			return false
		}
	}
	for _, t := range x.Tests {
		if (t.Kind == api.TestFlag || t.Kind == api.TestNoFlag) && s.flag(t.Name) < 0 {
			return false
		}
	}
	for _, a := range x.Acts {
		switch a.Kind {
		case api.ActEnter:
			if s.mode(a.Name) < 0 {
				return false
			}
		case api.ActSet, api.ActClear:
			if s.flag(a.Name) < 0 {
				return false
			}
		}
	}
	return true
}

func twice(l []string) bool {
	seen := newRoll()
	for _, name := range l {
		if !seen.take(name) {
			return true
		}
	}
	return false
}

func litFits(text string) bool { return len(text) > 0 && len(text) <= api.MaxLit }

func (s *study) ruleFlaw() api.Flaw {
	seen := newRoll()
	for i, r := range s.Rules {
		if !seen.take(r.Name) || s.names.tokens.has(r.Name) {
			return api.Flaw{Code: api.ErrTwice, Part: api.PartRule, Index: i, Sub: -1}
		}
		for j, n := range r.Expr {
			if code := s.nodeCode(n); code != api.OK {
				return api.Flaw{Code: code, Part: api.PartRule, Index: i, Sub: j}
			}
		}
	}
	return api.Flaw{}
}

func (s *study) nodeCode(n api.GNode) api.Errno {
	switch {
	case n.Op == api.GName && !s.names.tokens.has(n.Text) && !s.names.rules.has(n.Text):
		return api.ErrUnknown
	case n.Op == api.GLit && !litFits(n.Text):
		return api.ErrLit
	}
	return api.OK
}

func (s *study) unused() api.Flaw {
	for i, x := range s.Scans {
		if x.Term != "" && !s.names.used.has(x.Term) {
			return api.Flaw{Code: api.ErrUnused, Part: api.PartScan, Index: i}
		}
	}
	return api.Flaw{}
}

func (s *study) tooMany() api.Flaw {
	syms, prods := sizeOf(s.Rules)
	switch {
	case s.names.terms()-1 > api.MaxTerms:
		return api.Flaw{Code: api.ErrTerms}
	case syms > api.MaxSyms, prods > api.MaxProds, len(s.names.lits.texts)+len(s.Scans) > api.MaxRules:
		return api.Flaw{Code: api.ErrProds}
	}
	return api.Flaw{}
}

func (s *study) paintFlaw() api.Flaw {
	return lineFlaw(api.PartPaint, len(s.Paints), func(i int) (string, bool) {
		name := s.Paints[i].Name
		return name, s.names.called.has(name) || s.names.lits.has(name)
	})
}

func (s *study) foldFlaw() api.Flaw {
	return lineFlaw(api.PartFold, len(s.Folds), func(i int) (string, bool) {
		return s.Folds[i], s.names.called.has(s.Folds[i])
	})
}

func (s *study) markFlaw() api.Flaw {
	return lineFlaw(api.PartMark, len(s.Marks), func(i int) (string, bool) {
		m := s.Marks[i]
		return m.Name, s.names.called.has(m.Name) && s.names.fields.has(m.Field)
	})
}

func (s *study) injectFlaw() api.Flaw {
	return lineFlaw(api.PartInject, len(s.Injects), func(i int) (string, bool) {
		return s.Injects[i].Name, s.names.called.has(s.Injects[i].Name)
	})
}

// lineFlaw: what is wrong with lines that are about nodes, each told by its name and whether that, and what else it says, is known.
func lineFlaw(part api.Part, n int, tell func(int) (string, bool)) api.Flaw {
	seen := newRoll()
	for i := range n {
		name, known := tell(i)
		switch {
		case !known:
			return api.Flaw{Code: api.ErrUnknown, Part: part, Index: i}
		case !seen.take(name):
			return api.Flaw{Code: api.ErrTwice, Part: part, Index: i}
		}
	}
	return api.Flaw{}
}
