package inject

import (
	"trellis/api"
	"trellis/paint"
)

// Spans: the classes of the text's bytes, of inner layers ahead of outer ones.
func Spans(langs []api.Lang, l []api.Layer) []api.Span {
	first := byName(langs)
	var out []api.Span
	for depth := range api.MaxLayers {
		var deeper []api.Span
		for _, x := range l {
			lang, ok := first[x.Lang]
			if x.Depth != depth || !ok {
				continue
			}
			for _, s := range paint.Spans(langs[lang], x.Result.Nodes) {
				deeper = appendSpan(deeper, api.Span{From: x.From + s.From, To: x.From + s.To, Class: s.Class})
			}
		}
		out = over(out, deeper)
	}
	return out
}

// over: the spans above, and of those below what they leave free.
func over(below, above []api.Span) []api.Span {
	var out []api.Span
	for _, s := range below {
		for len(above) > 0 && above[0].From < s.To {
			out = appendSpan(out, api.Span{From: s.From, To: above[0].From, Class: s.Class})
			out = appendSpan(out, above[0])
			above = above[1:]
		}
		out = appendSpan(out, s)
	}
	for _, s := range above {
		out = appendSpan(out, s)
	}
	return out
}

// appendSpan: the spans, and of one more what is behind all of them.
func appendSpan(l []api.Span, s api.Span) []api.Span {
	last := len(l) - 1
	if last >= 0 {
		s.From = max(s.From, l[last].To)
	}
	switch {
	case s.From >= s.To:
		return l
	case last >= 0 && l[last].To == s.From && l[last].Class == s.Class:
		l[last].To = s.To
		return l
	}
	return append(l, s)
}
