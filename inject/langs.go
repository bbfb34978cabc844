package inject

import "trellis/api"

// byName: by name the place of the first language that is called so.
func byName(langs []api.Lang) map[string]int {
	out := map[string]int{}
	for i, l := range langs {
		if _, ok := out[l.Name]; !ok {
			out[l.Name] = i
		}
	}
	return out
}

// none: no language's place.
const none = -1

// lines: the inject lines of a language: by name the place of the language that the first line with that name tells; none: the list has no such language.
type lines map[string]int

// innerOf: by language its lines.
func innerOf(langs []api.Lang, first map[string]int) []lines {
	out := make([]lines, len(langs))
	for i, l := range langs {
		out[i] = linesOf(l.Injects, first)
	}
	return out
}

func linesOf(injects []api.InjectDef, first map[string]int) lines {
	out := lines{}
	for _, d := range injects {
		if _, ok := out[d.Name]; ok {
			continue
		}
		out[d.Name] = none
		if lang, ok := first[d.Lang]; ok {
			out[d.Name] = lang
		}
	}
	return out
}

// of: the language of what a node covers; false: it is no text of another language.
func (l lines) of(n api.Node) (int, bool) {
	if !n.Named || n.From >= n.To {
		return none, false
	}
	lang, ok := l[n.Name]
	return lang, ok && lang != none
}
