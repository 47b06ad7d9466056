package show_test

import (
	"strings"
	"testing"

	"copyist/api"
	"copyist/heap"
	"copyist/names"
	"copyist/show"
)

func TestExamples(t *testing.T) {
	d := newDesk()
	d.wantTexts(t, d.cons(integer(1), d.str(`a"b`)), `(1 . "a\"b")`, `(1 . a"b)`)
	d.wantTexts(t, d.list(symbol(api.SymQuote), d.interned("x")), "'x", "'x")
	for name, escaped := range map[string]string{"a b": `a\ b`, "12": `\12`, "": "##"} {
		d.wantTexts(t, d.interned(name), escaped, name)
	}
	// The printing example of DOC.md.
	d.wantTexts(t, d.list(d.interned("quote"), d.interned("a")), "'a", "'a")
}

func TestIntegers(t *testing.T) {
	d := newDesk()
	for n, want := range map[int]string{
		0: "0", 7: "7", -1: "-1", 10: "10", -120: "-120", api.MaxInt: "2305843009213693951", api.MinInt: "-2305843009213693952",
		1<<63 - 1: "9223372036854775807", -1 << 63: "-9223372036854775808",
	} {
		d.wantTexts(t, integer(n), want, want)
	}
}

func TestStrings(t *testing.T) {
	d := newDesk()
	for _, c := range []struct{ s, escaped string }{
		{"", `""`},
		{"a", `"a"`},
		{`"`, `"\""`},
		{`\`, `"\\"`},
		{`\"`, `"\\\""`},
		{`a"b\c""`, `"a\"b\\c\"\""`},
		{"é一\U0001f600\u0301", "\"é一\U0001f600\u0301\""},
		{"é\"一\\", `"é\"一\\"`},
		{"a\nb\tc\x1b\x00\r\x7f", "\"a\nb\tc\x1b\x00\r\x7f\""},
		{"() [] ' ` , ; # ? @ . 12", `"() [] ' ` + "`" + ` , ; # ? @ . 12"`},
	} {
		d.wantTexts(t, d.str(c.s), c.escaped, c.s)
	}
}

// symbolCases returns names of symbols and their escaped texts, but for the empty name.
func symbolCases() map[string]string {
	cases := map[string]string{
		"a": "a", "nil": "nil", "car": "car", "a-b": "a-b", "é": "é", "一二": "一二", "\U0001f600": "\U0001f600", "\x00": "\x00", "\u00a0": "\u00a0", "\v": "\v", "\x1b": "\x1b",
		"?": `\?`, "?a": `\?a`, "??": `\??`, "a?": "a?", "?(": `\?\(`, `?\`: `\?\\`, "? ": `\?\ `, "?1": `\?1`,
		"#": `\#`, "##": `\##`, "#'": `\#\'`, "#a": `\#a`, "a#": "a#", "#:a": `\#:a`, "a?b#c@": "a?b#c@",
		"@": `\@`, "@a": `\@a`, "@@": `\@@`, "a@b": "a@b", "@1": `\@1`, "@#?": `\@#?`,
		".": `\.`, "..": "..", "...": "...", ".5": ".5", "5.": "5.", ". ": `.\ `, "a.": "a.", ".a": ".a", "-.": "-.",
		"0": `\0`, "12": `\12`, "-1": `\-1`, "+5": `\+5`, "-": "-", "+": "+", "--1": "--1", "+-1": "+-1", "-+1": "-+1", "1-": "1-", "1+": "1+", "1a": "1a", "a1": "a1", "-a": "-a", "-1-1": "-1-1",
		"007": `\007`, "-0": `\-0`, "99999999999999999999999999": `\99999999999999999999999999`, "-99999999999999999999999999": `\-99999999999999999999999999`, "1e5": "1e5", "0x1": "0x1", "1_0": "1_0", "1.5": "1.5", "٣": "٣", "-٣": "-٣", "１": "１",
		"1 ": `1\ `, " 1": `\ 1`, `1\`: `1\\`, `\1`: `\\1`, "1(": `1\(`, "'1": `\'1`, "-1\n": "-1\\\n", "+ 1": `+\ 1`,
		`\`: `\\`, `\\`: `\\\\`, `a\`: `a\\`, `\a`: `\\a`, `\.`: `\\.`, `\?`: `\\?`, `\ `: `\\\ `,
		",": `\,`, ",@": `\,@`, "`": "\\`", ",@a": `\,@a`, "''": `\'\'`, "(a)": `\(a\)`, "[a]": `\[a\]`, "a;b": `a\;b`, `a"b"`: `a\"b\"`, "()": `\(\)`, "  ": `\ \ `,
		"a b": `a\ b`, "a\nb": "a\\\nb", "é 一": `é\ 一`, "a\tb\fc\rd": "a\\\tb\\\fc\\\rd",
	}
	for _, c := range "\t\n\f\r ()[]\"'`,;" {
		s := string(c)
		cases[s] = `\` + s
		cases["a"+s] = `a\` + s
		cases[s+"1"] = `\` + s + "1"
		cases["1"+s+s] = `1\` + s + `\` + s
	}
	return cases
}

func TestInternedSymbols(t *testing.T) {
	d := newDesk()
	d.wantTexts(t, d.interned(""), "##", "")
	for name, escaped := range symbolCases() {
		d.wantTexts(t, d.interned(name), escaped, name)
	}
	long := strings.Repeat("é", api.MaxName)
	d.wantTexts(t, d.interned(long), long, long)
	d.wantTexts(t, d.interned(strings.Repeat("(", api.MaxName)), strings.Repeat(`\(`, api.MaxName), strings.Repeat("(", api.MaxName))
	d.wantTexts(t, d.interned(strings.Repeat("1", api.MaxName)), `\`+strings.Repeat("1", api.MaxName), strings.Repeat("1", api.MaxName))
}

func TestUninternedSymbols(t *testing.T) {
	d := newDesk()
	d.wantTexts(t, d.fresh(""), "#:", "#:")
	for name, escaped := range symbolCases() {
		w := d.fresh(name)
		d.wantTexts(t, w, "#:"+escaped, "#:"+name)
		d.interned(name)
		d.wantTexts(t, w, "#:"+escaped, "#:"+name)
		d.wantTexts(t, d.fresh(name), "#:"+escaped, "#:"+name)
	}
}

func TestFixedSymbols(t *testing.T) {
	d := newDesk()
	for n := range api.FixedSyms {
		name, _ := d.t.Name(n)
		escaped := name
		switch n {
		case api.SymBack, api.SymComma, api.SymSplice:
			escaped = `\` + name
		}
		d.wantTexts(t, symbol(n), escaped, name)
	}
}

func TestObjectsByNumber(t *testing.T) {
	d := newDesk()
	for kind, name := range map[int]string{api.KindBuffer: "buffer", api.KindMarker: "marker", api.KindOver: "overlay", api.KindWindow: "window"} {
		for n, number := range map[int]string{0: "0", 3: "3", -1: "-1", 1 << 40: "1099511627776", -1 << 63: "-9223372036854775808"} {
			want := "#<" + name + " " + number + ">"
			d.wantTexts(t, api.Word{Kind: kind, N: n}, want, want)
		}
	}
}

func TestCode(t *testing.T) {
	d := newDesk()
	first := must(d.h.Code(api.Code{}))
	d.str("")
	second := must(d.h.Code(api.Code{Least: 1, Most: -1, Depth: 3, Bytes: []byte{1}, Consts: []api.Word{dead(api.KindCons)}}))
	d.wantTexts(t, first, "#<code 0>", "#<code 0>")
	d.wantTexts(t, second, "#<code 2>", "#<code 2>")
}

func TestPrimitives(t *testing.T) {
	d := newDesk()
	prim := func(w api.Word) api.Word { return api.Word{Kind: api.KindPrim, N: w.N} }
	for n, want := range map[int]string{api.SymApply: "#<subr apply>", api.SymNil: "#<subr nil>", api.SymComma: "#<subr ,>"} {
		d.wantTexts(t, prim(symbol(n)), want, want)
	}
	for _, name := range []string{"car", "a b", "", "12", "?#", `\`, "é", "#:a", strings.Repeat("(", api.MaxName)} {
		want := "#<subr " + name + ">"
		d.wantTexts(t, prim(d.interned(name)), want, want)
		d.wantTexts(t, prim(d.fresh(name)), want, want)
	}
}

func TestNoWords(t *testing.T) {
	d := newDesk()
	for _, escape := range both {
		d.wantAll(t, escape, "")
		if s, e := show.All(d.h, d.t, []api.Word{}, escape); s != "" || e != api.OK {
			t.Error(s, e)
		}
	}
}

func TestSeveralWords(t *testing.T) {
	d := newDesk()
	l := []api.Word{integer(1), lispNil, d.str("a b"), d.list(d.interned(""), integer(-2)), d.interned("x y"), d.str(""), d.str(`\`), d.vec()}
	d.wantAll(t, true, `1 nil "a b" (## -2) x\ y "" "\\" []`, l...)
	d.wantAll(t, false, `1 nil a b ( -2) x y  \ []`, l...)
	d.wantAll(t, false, "  ", d.str(""), d.interned(""), d.str(""))
	quote := symbol(api.SymQuote)
	d.wantAll(t, true, "quote x", quote, d.interned("x"))
}

// TestNothingChanges checks that showing words has no effect on the heap, the table or the arguments.
func TestNothingChanges(t *testing.T) {
	d := newDesk()
	inner := d.vec(d.str("é"), d.fresh("12"))
	l := []api.Word{d.list(symbol(api.SymQuote), inner), inner, d.dotted(integer(2), inner), dead(api.KindVec)}
	objects, symbols, room := d.h.Many(), d.t.Many(), d.h.Room()
	for range 3 {
		for _, escape := range both {
			show.Text(d.h, d.t, l[0], escape)
			show.All(d.h, d.t, l[:3], escape)
			d.wantAllError(t, escape, api.ErrType, l...)
		}
		d.wantAll(t, true, `'["é" #:\12] ["é" #:\12] (["é" #:\12] . 2)`, l[:3]...)
	}
	if d.h.Many() != objects || d.t.Many() != symbols || d.h.Room() != room {
		t.Error(d.h.Many(), d.t.Many(), d.h.Room())
	}
	if l[1] != inner || l[3] != dead(api.KindVec) {
		t.Error(l)
	}
}

// TestInvalidHeapsAndTables checks that ErrNil comes before every other error.
func TestInvalidHeapsAndTables(t *testing.T) {
	d := newDesk()
	var noHeap *heap.Heap
	var noTable *names.Table
	for name, x := range map[string]desk{
		"nil heap": {nil, d.t}, "zero heap": {&heap.Heap{}, d.t}, "copied heap": {noHeap.Copy(), d.t},
		"nil table": {d.h, nil}, "zero table": {d.h, &names.Table{}}, "copied table": {d.h, noTable.Copy()},
		"both": {nil, nil}, "both zero": {&heap.Heap{}, &names.Table{}},
	} {
		for _, w := range []api.Word{integer(1), lispNil, dead(api.KindCons), symbol(-1), {Kind: 11}, {Kind: api.KindBuffer}} {
			x.wantError(t, w, api.ErrNil)
		}
		x.wantAllError(t, true, api.ErrNil)
		x.wantAllError(t, false, api.ErrNil, integer(1), integer(2))
		if t.Failed() {
			t.Fatal(name)
		}
	}
	x := desk{d.h.Copy(), d.t.Copy()}
	x.wantTexts(t, lispNil, "nil", "nil")
}
