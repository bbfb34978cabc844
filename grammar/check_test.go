package grammar_test

import (
	"fmt"
	"math/rand"
	"strings"
	"testing"

	"trellis/api"
	"trellis/defn"
	"trellis/grammar"
)

// read: the definition of these lines.
func read(t *testing.T, lines string) (api.Defn, api.Spots, string) {
	t.Helper()
	text := "language l; " + lines
	d, sp, code, at := defn.Parse(text)
	if code != api.OK {
		t.Fatalf("%q: %d at %d", text, code, at)
	}
	return d, sp, text
}

// sameFlaw: Check and Build say what the chapter does, and Build nothing else beside a flaw.
func sameFlaw(t *testing.T, d api.Defn, want api.Flaw) {
	t.Helper()
	if got := grammar.Check(d); got != want {
		t.Fatalf("10.1: Check(%+v) = %+v, want %+v", d, got, want)
	}
	g, l, got := grammar.Build(d)
	if got != want {
		t.Fatalf("10.3: Build(%+v) tells %+v, want %+v", d, got, want)
	}
	if want.Code != api.OK && (g.Terms != nil || g.Syms != nil || g.Prods != nil || l != nil) {
		t.Fatalf("P4: Build(%+v) answers %+v and %+v beside a flaw", d, g, l)
	}
}

func flaw(code api.Errno, part api.Part, index, sub int) api.Flaw {
	return api.Flaw{Code: code, Part: part, Index: index, Sub: sub}
}

// 10.1, each kind of flaw, and what is just none; 10.2: where it stands in the text.
func TestFlaws(t *testing.T) {
	for _, c := range []struct {
		lines string
		want  api.Flaw
		at    string // what stands at the place; nothing: the place is 0
	}{
		{"rule s = ();", api.Flaw{}, ""},
		{"mode m; flag f; skip / /;", flaw(api.ErrNoRule, 0, 0, 0), ""},
		{"mode m; mode m;", flaw(api.ErrNoRule, 0, 0, 0), ""},
		{"mode s; flag s; token t /s/ in s when flag s do set s, enter s; rule s = t;", api.Flaw{}, ""},
		{"mode m; mode n; mode m open; rule s = ();", flaw(api.ErrTwice, api.PartMode, 2, 0), "mode m open"},
		{"flag f; flag g; flag g; flag f; rule s = ();", flaw(api.ErrTwice, api.PartFlag, 2, 0), "flag g; flag f"},
		{"flag f; mode m; flag f; mode m; rule s = ();", flaw(api.ErrTwice, api.PartMode, 1, 0), "mode m; rule"},
		{"skip /a*/; flag f; flag f; rule s = ();", flaw(api.ErrTwice, api.PartFlag, 1, 0), "flag f; rule"},

		{"mode m; token a /a/; skip /a/ in m, n; rule s = a;", flaw(api.ErrUnknown, api.PartScan, 1, 0), "skip"},
		{"flag n; skip /a/ in n; rule s = ();", flaw(api.ErrUnknown, api.PartScan, 0, 0), "skip"},
		{"mode n; skip /a/ when flag n; rule s = ();", flaw(api.ErrUnknown, api.PartScan, 0, 0), "skip"},
		{"mode n; skip /a/ when ended, noflag n; rule s = ();", flaw(api.ErrUnknown, api.PartScan, 0, 0), "skip"},
		{"mode n; skip /a/ do measure, set n; rule s = ();", flaw(api.ErrUnknown, api.PartScan, 0, 0), "skip"},
		{"mode n; skip /a/ do clear n; rule s = ();", flaw(api.ErrUnknown, api.PartScan, 0, 0), "skip"},
		{"flag n; skip /a/ do enter n 1; rule s = ();", flaw(api.ErrUnknown, api.PartScan, 0, 0), "skip"},
		{"mode m; mode n; skip /a/ in m, n, m; rule s = ();", flaw(api.ErrTwice, api.PartScan, 0, 0), "skip"},
		{"mode m; skip /a/ in m, m do enter n; rule s = ();", flaw(api.ErrUnknown, api.PartScan, 0, 0), "skip"},
		{"mode m; skip /a*/ in m, m; rule s = ();", flaw(api.ErrTwice, api.PartScan, 0, 0), "skip"},
		{"skip /a*/ when flag f; rule s = ();", flaw(api.ErrUnknown, api.PartScan, 0, 0), "skip"},
		{"flag f; skip /a/ when flag f, noflag f, flag f do set f, set f, clear f; rule s = ();", api.Flaw{}, ""},
		{"skip /a+/; skip /a*b?/; rule s = ();", flaw(api.ErrNullable, api.PartScan, 1, 0), "skip /a*b"},
		{"token a /()/; rule s = a;", flaw(api.ErrNullable, api.PartScan, 0, 0), "token"},
		{`skip ""; rule s = ();`, flaw(api.ErrLit, api.PartScan, 0, 0), "skip"},
		{`skip "0123456789abcdef"; rule s = ();`, api.Flaw{}, ""},
		{`skip "0123456789abcdef0"; rule s = ();`, flaw(api.ErrLit, api.PartScan, 0, 0), "skip"},
		{"skip empty when deeper do indent; rule s = ();", flaw(api.ErrPattern, api.PartScan, 0, 0), "skip"},
		{"token a empty; rule s = a;", api.Flaw{}, ""},
		{"skip delim; skip body; rule s = ();", api.Flaw{}, ""},
		{"skip empty; mode m; skip /a*/; rule s = ();", flaw(api.ErrPattern, api.PartScan, 0, 0), "skip empty"},

		{"rule s = t; rule t = (); rule s = ();", flaw(api.ErrTwice, api.PartRule, 2, -1), "rule s = ();"},
		{"token t /t/; rule s = t; rule t = nobody;", flaw(api.ErrTwice, api.PartRule, 1, -1), "rule t"},
		{"token t /t/; rule s = t nobody; rule t = ();", flaw(api.ErrUnknown, api.PartRule, 0, 1), "nobody"},
		{"rule s = t @ n | f: u*; rule t = ();", flaw(api.ErrUnknown, api.PartRule, 0, 2), "u*"},
		{"mode m; flag f; rule s = f: () m @ x;", flaw(api.ErrUnknown, api.PartRule, 0, 2), "m @"},
		{`rule s = "nobody" nobody;`, flaw(api.ErrUnknown, api.PartRule, 0, 1), "nobody;"},
		{`rule s = "0123456789abcdef" | t; rule t = () "0123456789abcdef0";`, flaw(api.ErrLit, api.PartRule, 1, 1), `"0123456789abcdef0"`},
		{`rule s = "" @ n;`, flaw(api.ErrLit, api.PartRule, 0, 0), `"" @`},
		{`rule s = "" nobody; rule s = ();`, flaw(api.ErrLit, api.PartRule, 0, 0), `""`},
		{"rule s = t; rule t = u; rule u = ();", api.Flaw{}, ""},

		{"token b /b/; token a /a/; token b /c/; token c /c/; rule s = a;", flaw(api.ErrUnused, api.PartScan, 0, 0), "token b /b"},
		{"token a /a/; skip / /; token b /b/; token b /c/; rule s = t; rule t = u; rule u = a;", flaw(api.ErrUnused, api.PartScan, 2, 0), "token b /b"},
		{`token a /a/; rule s = "a" a: () "b" @ a;`, flaw(api.ErrUnused, api.PartScan, 0, 0), "token a"},
		{"token a /a/; rule s = (); rule t = a @ b;", flaw(api.ErrStray, api.PartRule, 1, -1), "rule t"},
		{"token a /a/; rule s = s;", flaw(api.ErrUnused, api.PartScan, 0, 0), "token a"},

		{"rule s = s;", flaw(api.ErrBarren, api.PartRule, 0, -1), "rule s"},
		{"rule s = s?;", api.Flaw{}, ""},
		{"rule s = s*;", api.Flaw{}, ""},
		{"rule s = s+;", flaw(api.ErrBarren, api.PartRule, 0, -1), "rule s"},
		{"rule s = s | s s | ();", api.Flaw{}, ""},
		{"rule s = s | s s | f: (s @ n s);", flaw(api.ErrBarren, api.PartRule, 0, -1), "rule s"},
		{"rule s = (); rule t = t; rule u = ();", flaw(api.ErrBarren, api.PartRule, 1, -1), "rule t"},
		{"rule s = (); rule t = (); rule u = u;", flaw(api.ErrBarren, api.PartRule, 2, -1), "rule u"},
		{`rule s = "a" t?; rule t = "b" u; rule u = "c" t;`, flaw(api.ErrBarren, api.PartRule, 1, -1), "rule t"},
		{"rule s = t; rule t = u; rule u = v; rule v = ();", api.Flaw{}, ""},
		{"rule s = (); rule t = u; rule u = t | ();", flaw(api.ErrStray, api.PartRule, 1, -1), "rule t"},
		{"rule s = u; rule t = s; rule u = s | ();", flaw(api.ErrStray, api.PartRule, 1, -1), "rule t"},
		{"rule s = (f: (t @ x)* | ())+ ?; rule t = ();", api.Flaw{}, ""},
		{`rule s = "t" @ t t: (); rule t = ();`, flaw(api.ErrStray, api.PartRule, 1, -1), "rule t"},

		{`token a /a/; token _b /b/; rule s = a _b _r "k" @ _n "_k"; rule _r = (); paint a ""; paint s "x"; paint "k" ""; paint _n ""; paint "_k" "";`, api.Flaw{}, ""},
		{`token _b /b/; rule s = _b; paint s ""; paint _b "";`, flaw(api.ErrUnknown, api.PartPaint, 1, 0), "paint _b"},
		{`rule s = _r; rule _r = (); paint _r "";`, flaw(api.ErrUnknown, api.PartPaint, 0, 0), "paint"},
		{`token a "k"; rule s = a; paint "k" "";`, flaw(api.ErrUnknown, api.PartPaint, 0, 0), "paint"},
		{`rule s = f: "k"; paint f "";`, flaw(api.ErrUnknown, api.PartPaint, 0, 0), "paint"},
		{`mode m; flag f; rule s = (); paint m "";`, flaw(api.ErrUnknown, api.PartPaint, 0, 0), "paint"},
		{`rule s = (); paint "" "";`, flaw(api.ErrUnknown, api.PartPaint, 0, 0), "paint"},
		{`rule s = "k"; paint s "a"; paint k "b"; paint "s" "a";`, flaw(api.ErrTwice, api.PartPaint, 2, 0), `paint "s"`},
		{`rule s = (); paint s ""; paint s ""; paint n "";`, flaw(api.ErrTwice, api.PartPaint, 1, 0), `paint s ""; paint n`},
		{`rule s = (); fold n; paint n "";`, flaw(api.ErrUnknown, api.PartPaint, 0, 0), "paint"},

		{`token a /a/; token _b /b/; rule s = a _b @ _n; fold a; fold s; fold _n;`, api.Flaw{}, ""},
		{`rule s = "k"; fold s; fold k;`, flaw(api.ErrUnknown, api.PartFold, 1, 0), "fold k"},
		{`rule s = _r; rule _r = (); fold _r;`, flaw(api.ErrUnknown, api.PartFold, 0, 0), "fold"},
		{`rule s = "k" @ k; fold k; fold s; fold k; fold n;`, flaw(api.ErrTwice, api.PartFold, 2, 0), "fold k; fold n"},
		{`rule s = (); mark n f; fold n;`, flaw(api.ErrUnknown, api.PartFold, 0, 0), "fold"},

		{`rule s = f: ("k" @ n); mark n f; mark s f;`, api.Flaw{}, ""},
		{`rule s = f: "k"; mark k f;`, flaw(api.ErrUnknown, api.PartMark, 0, 0), "mark"},
		{`rule s = f: "k"; mark s s;`, flaw(api.ErrUnknown, api.PartMark, 0, 0), "mark"},
		{`rule s = f: "k" @ n; mark s n;`, flaw(api.ErrUnknown, api.PartMark, 0, 0), "mark"},
		{`rule s = f: "k"; mark s k;`, flaw(api.ErrUnknown, api.PartMark, 0, 0), "mark"},
		{`rule s = f: "k"; mark f f;`, flaw(api.ErrUnknown, api.PartMark, 0, 0), "mark"},
		{`rule s = f: "k" g: "k"; mark s f; mark s g;`, flaw(api.ErrTwice, api.PartMark, 1, 0), "mark s g"},
		{`rule s = f: "k" g: "k"; mark s f; mark s h;`, flaw(api.ErrUnknown, api.PartMark, 1, 0), "mark s h"},
		{`rule s = (); inject n x; mark n f;`, flaw(api.ErrUnknown, api.PartMark, 0, 0), "mark"},

		{`rule s = "k" @ n; inject n nobody; inject s n;`, api.Flaw{}, ""},
		{`rule s = "k"; inject s x; inject k x;`, flaw(api.ErrUnknown, api.PartInject, 1, 0), "inject k"},
		{`rule s = (); inject s x; inject s y; inject n x;`, flaw(api.ErrTwice, api.PartInject, 1, 0), "inject s y"},
	} {
		d, sp, text := read(t, c.lines)
		sameFlaw(t, d, c.want)
		if want := plainCheck(d); want != c.want {
			t.Fatalf("the model says %+v of %q", want, c.lines)
		}
		at := grammar.Place(sp, c.want)
		if c.at == "" && at != 0 || c.at != "" && !strings.HasPrefix(text[at:], c.at) {
			t.Errorf("10.2: the flaw of %q stands at %d", c.lines, at)
		}
	}
}

// 10.1: what is not well shaped, whatever else is amiss.
func TestShape(t *testing.T) {
	good, _, _ := read(t, `mode m; flag f; token a /a/; rule s = a "x"; paint a "c"; fold s;`)
	sameFlaw(t, good, api.Flaw{})
	for i, spoil := range []func(*api.Defn){
		func(d *api.Defn) { *d = api.Defn{} },
		func(d *api.Defn) { d.Name = "" },
		func(d *api.Defn) { d.Rules = nil; d.Name = "0" },
		func(d *api.Defn) { d.Modes = []api.ModeDef{{Name: "m"}, {Name: "m"}, {}} },
		func(d *api.Defn) { d.Flags = []string{"f", "f", " "} },
		func(d *api.Defn) { d.Scans[0].Pat = 0 },
		func(d *api.Defn) { d.Scans[0].Re = nil },
		func(d *api.Defn) { d.Scans[0].Acts = []api.ActDef{{Kind: api.ActEnqueue, N: -1}} },
		func(d *api.Defn) { d.Rules[0].Expr = nil },
		func(d *api.Defn) { d.Rules[0].Expr = d.Rules[0].Expr[:2] },
		func(d *api.Defn) { d.Rules[0].Expr[2].A = 7 },
		func(d *api.Defn) { d.Rules[0].Expr[2].B = -9 },
		func(d *api.Defn) { d.Rules[0].Expr[0].Op = 11 },
		func(d *api.Defn) { d.Folds = []string{""} },
		func(d *api.Defn) { d.Marks = []api.MarkDef{{Name: "s"}} },
		func(d *api.Defn) { d.Injects = []api.InjectDef{{Name: "s"}} },
	} {
		d, _, _ := read(t, `mode m; flag f; token a /a/; rule s = a "x"; paint a "c"; fold s;`)
		spoil(&d)
		if got := grammar.Check(d); got != (api.Flaw{Code: api.ErrShape}) {
			t.Errorf("10.1: %d: %+v", i, got)
		}
		sameFlaw(t, d, api.Flaw{Code: api.ErrShape})
	}
}

func many(n int, each string, sep string) string {
	var l []string
	for i := range n {
		l = append(l, strings.ReplaceAll(each, "#", fmt.Sprint(i)))
	}
	return strings.Join(l, sep)
}

// 10.1: each limit, as far as it goes and one beyond.
func TestLimits(t *testing.T) {
	none := api.Flaw{}
	terms, prods := flaw(api.ErrTerms, 0, 0, 0), flaw(api.ErrProds, 0, 0, 0)
	hollow := func(rule int) api.Flaw { return flaw(api.ErrHollow, api.PartRule, rule, -1) }
	for _, c := range []struct {
		lines string
		want  api.Flaw
	}{
		{many(16, "mode m#;", "") + "rule s = ();", none},
		{many(17, "mode m#;", "") + "rule s = ();", flaw(api.ErrTerms, api.PartMode, 16, 0)},
		{many(16, "mode m#;", "") + "mode m3; rule s = ();", flaw(api.ErrTwice, api.PartMode, 16, 0)},
		{many(18, "mode m#;", "") + "mode m3; rule s = ();", flaw(api.ErrTerms, api.PartMode, 16, 0)},
		{many(16, "flag m#;", "") + "rule s = ();", none},
		{many(17, "flag m#;", "") + "rule s = ();", flaw(api.ErrTerms, api.PartFlag, 16, 0)},
		{many(16, "flag m#;", "") + "flag m3; rule s = ();", flaw(api.ErrTwice, api.PartFlag, 16, 0)},

		{"rule s = " + many(63, `"k#"`, " ") + ";", none},
		{"rule s = " + many(64, `"k#"`, " ") + ";", terms},
		{many(63, "token t# /a/;", "") + "rule s = " + many(63, "t#", " ") + ";", none},
		{many(64, "token t# /a/;", "") + "rule s = " + many(64, "t#", " ") + ";", terms},
		{many(3, "token t# /a/;", "") + "rule s = " + many(3, "t#", " ") + many(60, ` "k#" "k#"`, "") + ";", none},
		{many(3, "token t# /a/;", "") + "rule s = " + many(3, "t#", " ") + many(61, ` "k#"`, "") + ";", terms},
		{many(3, "token t# /a/; token t# /b/;", "") + "rule s = " + many(3, "t#", " ") + many(60, ` "t#"`, "") + ";", none},
		{"rule s = " + many(64, `"k#"`, " ") + ` s s*;` + many(127, "rule r# = s;", ""), terms},

		{"rule s = " + many(127, "r#", " | ") + ";" + many(127, `rule r# = "k";`, ""), none},
		{"rule s = " + many(128, "r#", " | ") + ";" + many(128, `rule r# = "k";`, ""), prods},
		{"rule s = " + many(127, "r#", " ") + ";" + many(127, `rule r# = "k";`, ""), none},
		{"rule s = " + many(128, "r#", " ") + ";" + many(128, `rule r# = "k";`, ""), prods},
		{`rule s = "k"` + strings.Repeat("+", 127) + ";", none},
		{`rule s = "k"` + strings.Repeat("+", 128) + ";", prods},
		{`rule s = "k"` + strings.Repeat("?+*", 42) + "?;", none},
		{`rule s = "k"` + strings.Repeat("?+*", 42) + "??;", prods},
		{`rule s = "k"` + strings.Repeat(` ("k" | "l")`, 127) + ";", none},
		{`rule s = "k"` + strings.Repeat(` ("k" | "l")`, 128) + ";", prods},
		{`rule s = ` + many(255, `"k"`, " | ") + ";", none},
		{`rule s = ` + many(256, `"k"`, " | ") + ";", prods},
		{`rule s = "k" | (` + many(254, `"k"`, " | ") + ");", none},
		{`rule s = "k" | (` + many(255, `"k"`, " | ") + ");", prods},
		{`rule s = "k" (` + many(254, `"k"`, " | ") + ");", none},
		{`rule s = "k" (` + many(255, `"k"`, " | ") + ");", prods},
		{`rule s = ("k" | "k" | "k")` + strings.Repeat("+", 125) + ";", none},
		{`rule s = ("k" | "k" | "k" | "k")` + strings.Repeat("+", 125) + ";", none},
		{`rule s = ("k" | "k" | "k" | "k" | "k")` + strings.Repeat("+", 125) + ";", prods},

		{many(127, "skip /a/;", "") + `rule s = "k";`, none},
		{many(128, "skip /a/;", "") + `rule s = "k";`, prods},
		{many(128, "skip /a/;", "") + `rule s = ();`, none},
		{many(129, "skip /a/;", "") + `rule s = ();`, prods},
		{many(125, "token t /a/;", "") + `rule s = t "k" "l" "m" "k";`, none},
		{many(126, "token t /a/;", "") + `rule s = t "k" "l" "m" "k";`, prods},
		{many(129, "skip /a/;", "") + `rule s = t; rule t = s;`, prods},

		{`rule s = "a"` + strings.Repeat(" ()?", 64) + ";", none},
		{`rule s = "a"` + strings.Repeat(" ()*", 65) + ";", hollow(0)},
		{`rule s =` + strings.Repeat(" ()?", 63) + ";", none},
		{`rule s =` + strings.Repeat(" ()?", 64) + ";", hollow(0)},
		{`rule s = "a" | ` + strings.Repeat(" ()?", 64) + ` | ();`, none},
		{`rule s = "a" | t; rule t = ` + strings.Repeat(" u", 64) + "; rule u = ();", hollow(0)},
		{`rule s = t; rule t = ` + strings.Repeat(" u", 64) + "; rule u = ();", hollow(0)},
		{`rule s = (t | "a") "b"; rule t =` + strings.Repeat(" u", 62) + "; rule u = ();", none},
		{`rule s = (t | "a") "b"; rule t =` + strings.Repeat(" u", 63) + "; rule u = ();", hollow(0)},
		{`rule s = t | "a"; rule t = "b" |` + strings.Repeat(" u", 65) + "; rule u = ();", hollow(0)},
		{`rule s = t | (); rule t = "b" |` + strings.Repeat(" u", 65) + "; rule u = ();", hollow(0)},
		{`rule s = t | (); rule t = "b" | "c"` + strings.Repeat(" u", 65) + "; rule u = ();", hollow(1)},
		{`rule s = t | (); rule t = "b" | "c"` + strings.Repeat(" u", 65) + " | u; rule u = ();", hollow(1)},
		{`rule s = "a" t u; rule t = "b"; rule u = ("c"` + strings.Repeat(" ()?", 65) + ")*;", hollow(2)},
		{`rule s = "a" t u; rule t = "b"; rule u = ("c"` + strings.Repeat(" ()?", 64) + ")*;", hollow(2)},
		{`rule s = "a" t u; rule t = "b"; rule u = ("c"` + strings.Repeat(" ()?", 63) + ")*;", none},
		{`rule s = "a" u; rule u = (` + strings.Repeat(" ()?", 63) + ")*;", none},
		{`rule s = "a" u; rule u = (` + strings.Repeat(" ()?", 64) + ")*;", hollow(1)},
		{`rule s = "a" u; rule u = (` + strings.Repeat(" ()?", 64) + ")+;", hollow(0)},
		{`rule s = "a" w0;` + doubled(5), none},
		{`rule s = w0;` + doubled(5), none},
		{`rule s = w0 ()?;` + doubled(5), hollow(0)},
		{`rule s = "a" w0 ()?;` + doubled(5), none},
		{`rule s = "a" w0 ()? ()?;` + doubled(5), hollow(0)},
		{`rule s = "a" w0;` + doubled(6), hollow(0)},
		{`rule s = "a" w1 | w0 "b" | ();` + doubled(6), hollow(0)},
		{`rule s = "a" w0;` + doubled(100), hollow(0)},
		{`rule s = "a" (w0 | ());` + doubled(100), hollow(0)},
		{`rule s = "a" t; rule t = t t | t | u u u | v; rule u = v v; rule v = () | t t t;`, none},
		{`rule s = "a" t t; rule t = s s s | ();`, none},
	} {
		d, _, _ := read(t, c.lines)
		if want := plainCheck(d); want != c.want {
			t.Errorf("the model says %+v of %.90q.., not %+v", want, c.lines, c.want)
		}
		sameFlaw(t, d, c.want)
	}
}

// doubled: n rules that become nothing by two of the next one, and one that is nothing: w0 weighs twice 2 to the power of n, less 1.
func doubled(n int) string {
	out := ""
	for i := range n {
		out += fmt.Sprintf("rule w%d = w%d w%d;", i, i+1, i+1)
	}
	return out + fmt.Sprintf("rule w%d = ();", n)
}

// kind: a flaw's code and part.
func kind(f api.Flaw) string { return fmt.Sprint(int(f.Code), " ", int(f.Part)) }

// 10.1 and 10.3 of random definitions, without flaws and with some.
func TestRandom(t *testing.T) {
	r := rand.New(rand.NewSource(101))
	seen := map[string]int{}
	for i := range 30000 {
		p := newPool(r, 1+r.Intn(5))
		var d api.Defn
		switch {
		case i%10 == 0:
			d = p.draft(6)
		case i%10 == 1:
			d = hollowed(r)
		default:
			d = p.sound(r.Intn(9))
		}
		for range i / 3 % 3 {
			d = p.spoilt(d)
		}
		want := plainCheck(d)
		seen[kind(want)]++
		sameFlaw(t, d, want)
		if want.Code != api.OK {
			continue
		}
		g, l, _ := grammar.Build(d)
		if m := newPlain(d); !alike(g, m.gram()) || !alike(l, m.rules()) {
			t.Fatalf("10.3: Build(%+v) = %+v, %+v, want %+v, %+v", d, g, l, m.gram(), m.rules())
		}
	}
	enough(t, seen, 5000, kind(api.Flaw{}))
	for _, f := range []api.Flaw{
		{Code: api.ErrTwice, Part: api.PartMode}, {Code: api.ErrTwice, Part: api.PartFlag},
		{Code: api.ErrUnknown, Part: api.PartScan}, {Code: api.ErrTwice, Part: api.PartScan},
		{Code: api.ErrNullable, Part: api.PartScan}, {Code: api.ErrLit, Part: api.PartScan}, {Code: api.ErrPattern, Part: api.PartScan},
		{Code: api.ErrTwice, Part: api.PartRule}, {Code: api.ErrUnknown, Part: api.PartRule}, {Code: api.ErrLit, Part: api.PartRule},
		{Code: api.ErrUnused, Part: api.PartScan},
		{Code: api.ErrBarren, Part: api.PartRule}, {Code: api.ErrStray, Part: api.PartRule}, {Code: api.ErrHollow, Part: api.PartRule},
		{Code: api.ErrUnknown, Part: api.PartPaint}, {Code: api.ErrTwice, Part: api.PartPaint},
		{Code: api.ErrUnknown, Part: api.PartFold}, {Code: api.ErrTwice, Part: api.PartFold},
		{Code: api.ErrUnknown, Part: api.PartMark}, {Code: api.ErrTwice, Part: api.PartMark},
		{Code: api.ErrUnknown, Part: api.PartInject}, {Code: api.ErrTwice, Part: api.PartInject},
	} {
		enough(t, seen, 30, kind(f))
	}
}
