package read_test

import (
	"strings"
	"testing"

	"copyist/api"
	"copyist/read"
)

// row is a text and the form that it is as a whole.
type row struct{ in, want string }

func check(t *testing.T, rows []row) {
	t.Helper()
	for _, x := range rows {
		wantForm(t, newDesk(100), x.in, 0, x.want, length(x.in))
		wantForm(t, newDesk(100), "é ;(\n\f"+x.in+"\r\t)", 2, x.want, 6+length(x.in))
		wantAll(t, newDesk(100), x.in, x.want)
	}
}

func TestExamples(t *testing.T) {
	d := newDesk(100)
	wantForm(t, d, "(a . b)", 0, "(<a> . <b>)", 7)
	wantForm(t, d, `'(1 "x") ; c`, 0, `(<quote> (1 "x"))`, 8)
	wantForm(t, d, `?\C-a`, 0, "1", 5)
	wantForm(t, d, `?\M-x`, 0, "134217848", 5)
	wantForm(t, d, `?\C-%`, 0, "67108901", 5)
	wantFault(t, d, "(a", 0, api.ErrForm, 2)
	wantFault(t, d, ")", 0, api.ErrForm, 0)
	wantFault(t, d, "2305843009213693952", 0, api.ErrOver, 0)
}

func TestLists(t *testing.T) {
	check(t, []row{
		{"()", "<nil>"},
		{"( \t\n\f\r;)\n)", "<nil>"},
		{"(a)", "(<a>)"},
		{"(a b 3)", "(<a> <b> 3)"},
		{"(())", "(<nil>)"},
		{"((a)(b)((c)))", "((<a>) (<b>) ((<c>)))"},
		{"( a\n;)\nb ;\n )", "(<a> <b>)"},
		{"(a;b\rc\fd ;\"\\\n;;(\ne)", "(<a> <e>)"},
		{"(a\"b\"c[d]'e(f)g,h`i\"\"#'j ?k)", "(<a> \"b\" <c> [<d>] (<quote> <e>) (<f>) <g> (<,> <h>) (<`> <i>) \"\" (<function> <j>) 107)"},
		{"(a#'b?c)", "(<a#> (<quote> <b?c>))"},
		{"(a . b)", "(<a> . <b>)"},
		{"(a b . c)", "(<a> <b> . <c>)"},
		{"(a . (b . (c . ())))", "(<a> <b> <c>)"},
		{"(a . nil)", "(<a>)"},
		{"(a .(b))", "(<a> <b>)"},
		{"(a .[b])", "(<a> . [<b>])"},
		{`(a ."b")`, `(<a> . "b")`},
		{"(a .'b)", "(<a> <quote> <b>)"},
		{"(a .`b)", "(<a> <`> <b>)"},
		{"(a .,b)", "(<a> <,> <b>)"},
		{"(a .,@b)", "(<a> <,@> <b>)"},
		{"(a .;c\nb;)\n )", "(<a> . <b>)"},
		{"(a\n.\tb\n)", "(<a> . <b>)"},
		{"((a . 1) . (b . 2))", "((<a> . 1) <b> . 2)"},
		{"('a . 'b)", "((<quote> <a>) <quote> <b>)"},
		{"(\"a\". b)", `("a" . <b>)`},
		{"(a .b)", "(<a> <.b>)"},
		{"(a. b)", "(<a.> <b>)"},
		{"(a.b)", "(<a.b>)"},
		{"(a .. b)", "(<a> <..> <b>)"},
		{`(a \. b)`, "(<a> <.> <b>)"},
		{`(\. . \.)`, "(<.> . <.>)"},
		{"(a .5)", "(<a> <.5>)"},
		{"(a .#)", "(<a> <.#>)"},
		{"(.a)", "(<.a>)"},
	})
}

func TestVectors(t *testing.T) {
	check(t, []row{
		{"[]", "[]"},
		{"[ ;]\n ]", "[]"},
		{"[a]", "[<a>]"},
		{`[1 "a" () [2] (b . c)]`, `[1 "a" <nil> [2] (<b> . <c>)]`},
		{"[[][]]", "[[] []]"},
		{"[.a]", "[<.a>]"},
		{`[\.]`, "[<.>]"},
	})
}

func TestPrefixes(t *testing.T) {
	check(t, []row{
		{"'a", "(<quote> <a>)"},
		{"`a", "(<`> <a>)"},
		{",a", "(<,> <a>)"},
		{",@a", "(<,@> <a>)"},
		{"#'a", "(<function> <a>)"},
		{"''a", "(<quote> (<quote> <a>))"},
		{"'`,,@#'a", "(<quote> (<`> (<,> (<,@> (<function> <a>)))))"},
		{"#'(lambda (x) x)", "(<function> (<lambda> (<x>) <x>))"},
		{"'()", "(<quote> <nil>)"},
		{"' ;a\n\tb", "(<quote> <b>)"},
		{"` b", "(<`> <b>)"},
		{", b", "(<,> <b>)"},
		{", @b", "(<,> <@b>)"},
		{",;\n@b", "(<,> <@b>)"},
		{",@ b", "(<,@> <b>)"},
		{",@@b", "(<,@> <@b>)"},
		{",@,@b", "(<,@> (<,@> <b>))"},
		{",(@ b)", "(<,> (<@> <b>))"},
		{"#' ;a\n\tb", "(<function> <b>)"},
		{"'##", "(<quote> <>)"},
		{"#'##", "(<function> <>)"},
		{"'?a", "(<quote> 97)"},
		{"'\"a\"", `(<quote> "a")`},
		{"'(a . ,b)", "(<quote> (<a> <,> <b>))"},
	})
}

func TestStrings(t *testing.T) {
	check(t, []row{
		{`""`, `""`},
		{`"abc"`, `"abc"`},
		{`"()[];'#.?, "`, `"()[];'#.?, "`},
		{"\"a\nb\tc\rd\x00\"", "\"a\nb\tc\rd\x00\""},
		{"\"é\U0001f600\ufffd\"", "\"é\U0001f600\ufffd\""},
		{`"\n\t\e\\\""`, "\"\n\t\x1b\\\"\""},
		{`"n\nt\te\ex"`, "\"n\nt\te\x1bx\""},
		{"\"a\\\nb\\\n\"", `"ab"`},
		{"\"\\\n\n\"", "\"\n\""},
		{`"\x41\"`, `"A"`},
		{`"\x41\\x42\43"`, `"AB43"`},
		{`"\x41\\n"`, "\"A\n\""},
		{`"\x41\n"`, `"An"`},
		{`"\x0\"`, "\"\x00\""},
		{`"\x000041\"`, `"A"`},
		{`"\xe9\\xE9\\xeA\"`, `"ééê"`},
		{`"\x10ffff\\x10FFFF\\x4e00\"`, "\"\U0010ffff\U0010ffff一\""},
		{`"\xabcde\\xFABCD\"`, "\"\U000abcde\U000fabcd\""},
		{`"\x12345\\x67890\"`, "\"\U00012345\U00067890\""},
		{`"\xd7ff\\xe000\\x9\"`, "\"\ud7ff\ue000\t\""},
		{`"\\x41\\"`, `"\x41\"`},
	})
	d := newDesk(10)
	wantForm(t, d, `"a"b`, 0, `"a"`, 3)
	wantForm(t, d, `"a""b"`, 3, `"b"`, 6)
	wantFault(t, d, `"a"b`, 2, api.ErrForm, 4)
}

func TestTokens(t *testing.T) {
	check(t, []row{
		{"a", "<a>"},
		{"nil", "<nil>"},
		{"NIL", "<NIL>"},
		{"foo-bar!$%&*/:<=>?@^_{|}~.#+", "<foo-bar!$%&*/:<=>?@^_{|}~.#+>"},
		{"é一\U0001f600\u00a0\u2028", "<é一\U0001f600\u00a0\u2028>"},
		{"\v\x00\x1f\x7f", "<\v\x00\x1f\x7f>"},
		{"@a", "<@a>"},
		{`\a`, "<a>"},
		{`a\ b`, "<a b>"},
		{`\(\)\[\]\"\'` + "\\`" + `\,\;\\`, "<()[]\"'`,;\\>"},
		{"\\\n\\\t\\\f\\\r\\ ", "<\n\t\f\r >"},
		{`\n\x41\t`, "<nx41t>"},
		{`\?a`, "<?a>"},
		{`\#a`, "<#a>"},
		{`\##`, "<##>"},
		{"a##", "<a##>"},
		{`\é`, "<é>"},
		{`\nil`, "<nil>"},
		{"..", "<..>"},
		{"...", "<...>"},
		{".a", "<.a>"},
		{`\.`, "<.>"},
		{"##", "<>"},
	})
}

func TestIntegers(t *testing.T) {
	check(t, []row{
		{"0", "0"},
		{"7", "7"},
		{"1234567890", "1234567890"},
		{"+5", "5"},
		{"-5", "-5"},
		{"+0", "0"},
		{"-0", "0"},
		{"007", "7"},
		{"-007", "-7"},
		{"2305843009213693950", "2305843009213693950"},
		{"2305843009213693951", "2305843009213693951"},
		{"+2305843009213693951", "2305843009213693951"},
		{"-2305843009213693951", "-2305843009213693951"},
		{"-2305843009213693952", "-2305843009213693952"},
		{"-" + strings.Repeat("0", 3000) + "2305843009213693952", "-2305843009213693952"},
		{strings.Repeat("0", 3000), "0"},
		{"+", "<+>"},
		{"-", "<->"},
		{"1+", "<1+>"},
		{"1-", "<1->"},
		{"++1", "<++1>"},
		{"--1", "<--1>"},
		{"+-1", "<+-1>"},
		{"1.", "<1.>"},
		{"1.5", "<1.5>"},
		{".5", "<.5>"},
		{"1_000", "<1_000>"},
		{"0x10", "<0x10>"},
		{"1e3", "<1e3>"},
		{"2305843009213693952x", "<2305843009213693952x>"},
		{"x2305843009213693952", "<x2305843009213693952>"},
		{`\12`, "<12>"},
		{`1\2`, "<12>"},
		{`-1\2`, "<-12>"},
		{`\-12`, "<-12>"},
		{`2305843009213693952\3`, "<23058430092136939523>"},
		{"\u0661\u0662", "<\u0661\u0662>"}, // digits, but not ASCII
		{"\uff11", "<\uff11>"},
	})
}

func TestFixedSymbols(t *testing.T) {
	for n, s := range map[int]string{
		api.SymNil: "nil", api.SymT: "t", api.SymQuote: "quote", api.SymBack: "\\`", api.SymComma: `\,`, api.SymSplice: `\,@`,
		api.SymCyclicFunction: "cyclic-function-indirection",
	} {
		d := newDesk(10)
		w, _, f := read.Read(d.h, d.t, s, 0)
		if f != (api.Fault{}) || w != (api.Word{Kind: api.KindSym, N: n}) {
			t.Errorf("%s: %v, %v", s, w, f)
		}
		wantSymbols(t, d)
	}
}

func TestInternedSymbols(t *testing.T) {
	d := newDesk(10)
	d.t.Fresh("a")
	d.t.Fresh("")
	d.t.Intern("b")
	wantForm(t, d, `(a \b ## ## a)`, 0, "(<a> <b> <> <> <a>)", 14)
	wantSymbols(t, d, "a", "", "b", "a", "")
}

func TestBlankAndDelimiter(t *testing.T) {
	blanks := map[int]bool{9: true, 10: true, 12: true, 13: true, 32: true}
	others := map[int]bool{'(': true, ')': true, '[': true, ']': true, '"': true, '\'': true, '`': true, ',': true, ';': true}
	test := func(c int) {
		if read.Blank(c) != blanks[c] || read.Delimiter(c) != (blanks[c] || others[c]) {
			t.Errorf("character %d: %v, %v", c, read.Blank(c), read.Delimiter(c))
		}
	}
	for c := -1000; c <= 0x3100; c++ {
		test(c)
	}
	for _, c := range []int{api.MinInt, api.MaxInt, api.MaxRune, api.MaxRune + 1, 1<<32 + 10, 1<<32 + ';', -1 << 63, 1<<63 - 1} {
		test(c)
	}
}
