package read_test

import (
	"strings"
	"testing"

	"copyist/api"
)

// broken is a text and the position of its ErrForm.
type broken struct {
	in string
	at int
}

func checkBroken(t *testing.T, rows []broken) {
	t.Helper()
	for _, x := range rows {
		wantFault(t, newDesk(100), x.in, 0, api.ErrForm, x.at)
		wantFault(t, newDesk(100), "é ;(\n"+x.in, 2, api.ErrForm, 5+x.at)
		wantAllFault(t, newDesk(100), x.in, api.ErrForm, x.at)
		wantAllFault(t, newDesk(100), "'é "+x.in, api.ErrForm, 3+x.at)
	}
}

func TestUnmatchedBrackets(t *testing.T) {
	checkBroken(t, []broken{
		{")", 0}, {"]", 0}, {" ;\n)", 3}, {"]a", 0},
		{"(]", 1}, {"[)", 1}, {"(a ]", 3}, {"[a )", 3}, {"(a ;)\n]", 6},
		{"([)]", 2}, {"[(])", 2}, {"((a)]", 4}, {"[[a])", 4},
		{"(é ]", 3}, {"(a]", 2}, {"[1)", 2}, {"(\"a\"]", 4}, {"(?)]", 3},
	})
}

func TestFormRequired(t *testing.T) {
	checkBroken(t, []broken{
		{"(')", 2}, {"['])", 2}, {"(`)", 2}, {"(,)", 2}, {"(,@)", 3}, {"(#')", 3},
		{"')", 1}, {"']", 1}, {",@ )", 3}, {"#' ;\n]", 5}, {"''`)", 3},
		{"(a . )", 5}, {"(a .)", 4}, {"(a . ;b\n)", 8}, {"(a .])", 4}, {"(a . 'b ')", 8}, {"(a . ')", 6},
	})
}

func TestDots(t *testing.T) {
	checkBroken(t, []broken{
		{".", 0}, {". a", 0}, {".(a)", 0}, {".;", 0}, {"( . a)", 2}, {"(. a)", 1}, {"(.)", 1}, {"(.", 1},
		{"[.]", 1}, {"[a . b]", 3}, {"[.(a)]", 1}, {"[a .", 3},
		{"'.", 1}, {"' . a", 2}, {"(a '. b)", 4}, {",@.", 2}, {"#'.", 2},
		{"(1 . . 2)", 5}, {"(1 . .)", 5}, {"(1 .'. 2)", 5}, {"(é . [.])", 6}, {"(a . (. b))", 6},
	})
}

func TestAfterDottedForm(t *testing.T) {
	checkBroken(t, []broken{
		{"(a . b c)", 7}, {"(a . b ;c)\n d)", 12}, {"(a . b]", 6}, {"(a . b . c)", 7}, {"(a . b . )", 7}, {"(a . b 'c)", 7},
		{"(a . b(c))", 6}, {"(a . b[c])", 6}, {"(a . b\"c\")", 6}, {"(a . (b)c)", 8}, {"(a . \"b\"c)", 8}, {"(a . () ())", 8},
		{"(a . b #c)", 7}, {"(a . b 2305843009213693952)", 7}, {`(a . b "\q")`, 7}, {"(a . b ?", 7}, {"(a . b (", 7}, {`(a . b \`, 7},
		{"(a . b c", 7}, {"((a . b c) . d e)", 8},
	})
}

func TestStringEscapes(t *testing.T) {
	checkBroken(t, []broken{
		{`"\q"`, 1}, {`"é\q"`, 2}, {`"\N"`, 1}, {`"\T"`, 1}, {`"\E"`, 1}, {`"\X41\"`, 1}, {`"\s"`, 1}, {`"\d"`, 1}, {`"\0"`, 1}, {`"\101"`, 1},
		{`"\ "`, 1}, {"\"\\\t\"", 1}, {"\"\\\r\n\"", 1}, {`"\'"`, 1}, {`"\("`, 1}, {`"\C-a"`, 1}, {`"\é"`, 1}, {"\"\\\x00\"", 1},
		{`"\x\"`, 1}, {`"\x"`, 1}, {`"\x41"`, 1}, {`"\x 41\"`, 1}, {`"\x41 \"`, 1}, {`"\xg\"`, 1}, {`"\x4g\"`, 1}, {`"\x4G\"`, 1}, {`"\x@\"`, 1}, {"\"\\x`\\\"", 1},
		{`"\x/\"`, 1}, {`"\x:\"`, 1}, {`"\x-1\"`, 1}, {`"\x+1\"`, 1}, {`"\x0000041\"`, 1}, {`"\x0000000\"`, 1}, {"\"\\x41\n\"", 1},
		{`"\xd800\"`, 1}, {`"\xDFFF\"`, 1}, {`"\x110000\"`, 1}, {`"\xffffff\"`, 1},
		{`"\n\\\"\x41\\q"`, 12}, {`"\q\w"`, 1}, {`("a" "\q"`, 6}, {`"\x41\\x4"`, 6},
		{`"\xq`, 1}, {`"\x\`, 1}, {`"\x4g`, 1}, {`"\x41 `, 1}, {`"\xd800\`, 1}, {`"\x0000410`, 1}, {`"\q`, 1}, {`"\q\`, 1},
	})
}

// TestEndWithinNumberedEscape checks that an end within \x is no fault of its backslash, unless the six digits before the end are the number of no character.
func TestEndWithinNumberedEscape(t *testing.T) {
	for _, s := range []string{`\x41\`, `\x0\`, `\xe9\`, `\x00004A\`, `\x10ffff\`, `\x10FFFF\`, `\x01f600\`, `\xd8000\`, `\xffff\`, `\xfffff\`} {
		for n := range len(s) + 1 {
			checkBroken(t, []broken{
				{`"` + s[:n], 1 + n}, {`"é\\` + s[:n], 4 + n}, {`"\x41\` + s[:n], 6 + n}, {`(a "b" ["` + s[:n], 9 + n}, {`(a . "` + s[:n], 6 + n},
			})
		}
	}
	checkBroken(t, []broken{
		{`"\xd800`, 7}, {`"\xdfff`, 7}, {`"\x0d800`, 8}, // more digits may follow
		{`"\x00d800`, 1}, {`"\x00DFFF`, 1}, {`"\x110000`, 1}, {`"\xffffff`, 1}, {`("é\xFFFFFF`, 3},
	})
}

func TestHashes(t *testing.T) {
	checkBroken(t, []broken{
		{"#", 0}, {"# ", 0}, {"#a", 0}, {"#(a)", 0}, {"#[a]", 0}, {"#\"a\"", 0}, {"#`a", 0}, {"#,a", 0}, {"#;a\n'b", 0}, {"#1", 0}, {"#\\'a", 0}, {"#:a", 0},
		{"##a", 0}, {"###", 0}, {"##\\", 0}, {"##?a", 0}, {"##1", 0}, {"##.", 0}, {"##é", 0},
		{"(é #a)", 3}, {"(#", 1}, {"'#)", 1}, {"#'#", 2}, {"(a . #)", 5},
	})
	wantAllFault(t, newDesk(10), "## #", api.ErrForm, 3)
}

func TestEndWithinForm(t *testing.T) {
	d := newDesk(100)
	for _, s := range []string{
		"(", "[", "'", "`", ",", ",@", "#'", `"`, "?", "(a", "[a", "(a ", "(a ;)", "[ ;]", "' ", "' ;a", "''", "#' ;a",
		"(a .", "(a . ", "(a . ;b)", "(a . b", "(a . b ", "(a . b ;)", "(a . (b", "(a . '", "((a) [b]", "('a", "(é (ü",
		`"a`, `"é`, `"a\"`, `"a\\`, `"\n`, "\"a\\\n", `"\x41\`, `("a" "b`, `a\`, `é\`, `\`, `a\\\`, `1\`, `.\`, `(a \`, `"\`, `"a\`, `"é\`, `"\n\`, `("\`, `?\`,
	} {
		wantFault(t, d, s, 0, api.ErrForm, length(s))
		wantAllFault(t, d, s, api.ErrForm, length(s))
		wantAllFault(t, d, "é "+s, api.ErrForm, 2+length(s))
	}
}

func TestIntegersOutOfRange(t *testing.T) {
	d := newDesk(100)
	for _, s := range []string{
		"2305843009213693952", "+2305843009213693952", "-2305843009213693953", "02305843009213693952",
		"9223372036854775807", "9223372036854775808", "-9223372036854775808", "-9223372036854775809", "18446744073709551616", "36893488147419103233",
		strings.Repeat("9", 3000), "-1" + strings.Repeat("0", 3000),
	} {
		wantFault(t, d, s, 0, api.ErrOver, 0)
		wantFault(t, d, "(é "+s+"]", 0, api.ErrOver, 3)
		wantFault(t, d, "(é "+s, 0, api.ErrOver, 3)
		wantFault(t, d, "(é . "+s+" b)", 0, api.ErrOver, 5)
		wantFault(t, d, "(é "+s+")", 3, api.ErrOver, 3)
		wantAllFault(t, d, "é ;\n'"+s, api.ErrOver, 5)
	}
}

// TestFirstFault checks that the first of several errors is returned.
func TestFirstFault(t *testing.T) {
	d := newDesk(100)
	over, long := "2305843009213693952", strings.Repeat("a", api.MaxName+1)
	for _, x := range []struct {
		in string
		e  api.Errno
		at int
	}{
		{"(" + over + " )]", api.ErrOver, 1},
		{"(] " + over, api.ErrForm, 1},
		{"(#a " + over, api.ErrForm, 1},
		{"(" + over + " #a", api.ErrOver, 1},
		{"(" + long + " " + over, api.ErrLong, 1},
		{"(" + over + " " + long, api.ErrOver, 1},
		{long + `\`, api.ErrForm, len(long) + 1},
		{over + `\`, api.ErrForm, len(over) + 1},
		{"." + long, api.ErrLong, 0},
		{strings.Repeat("'", 201) + ")", api.ErrDepth, 200},
		{strings.Repeat("'", 200) + ")", api.ErrForm, 200},
		{strings.Repeat("(", 200) + over, api.ErrOver, 200},
		{strings.Repeat("(", 201) + over, api.ErrDepth, 200},
		{strings.Repeat("(", 200) + "#a", api.ErrForm, 200},
		{strings.Repeat("(", 200) + "]", api.ErrForm, 200},
	} {
		wantFault(t, d, x.in, 0, x.e, x.at)
		wantAllFault(t, d, x.in, x.e, x.at)
		wantAllFault(t, d, "é "+x.in, x.e, x.at+2)
	}
}

func TestArguments(t *testing.T) {
	for name, d := range invalid() {
		for _, s := range []string{"", "a", "(", "\xff"} {
			for _, at := range []int{-1, 0, 1, 2} {
				wantFault(t, d, s, at, api.ErrNil, 0)
			}
			wantAllFault(t, d, s, api.ErrNil, 0)
		}
		if t.Failed() {
			t.Fatal(name)
		}
	}
	d := newDesk(100)
	for _, s := range []string{"\xff", "a \xff", "(a) \xed\xa0\x80", "a\xc3", "\xc0\x80", "; \xf4\x90\x80\x80", "\"\xe9\""} {
		for _, at := range []int{-1, 0, 1, 100} {
			wantFault(t, d, s, at, api.ErrForm, 0)
		}
		wantAllFault(t, d, s, api.ErrForm, 0)
	}
	for _, at := range []int{-1, 3, 4, api.MinInt, api.MaxInt, -1 << 63, 1<<63 - 1} {
		wantFault(t, d, "é)", at, api.ErrRange, 0)
	}
	wantObjects(t, d)
	wantSymbols(t, d)
}

func TestNothingFollows(t *testing.T) {
	d := newDesk(100)
	for _, s := range []string{"", " ", " \t\n\f\r", ";", "; a", " ;a\n;b\n", ";é", ";a\rb\f\\"} {
		wantFault(t, d, s, 0, api.ErrEnd, length(s))
		wantFault(t, d, s, length(s), api.ErrEnd, length(s))
		wantFault(t, d, "é"+s, 1, api.ErrEnd, length(s)+1)
		wantAll(t, d, s)
	}
}

func TestEveryPosition(t *testing.T) {
	const s = `(é "ß" . '\ü);x` + "\n?é "
	d := newDesk(100)
	for at, want := range []struct {
		form string
		end  int
		f    api.Fault
	}{
		0:  {form: `(<é> "ß" <quote> <ü>)`, end: 13},
		1:  {form: "<é>", end: 2},
		2:  {form: `"ß"`, end: 6},
		3:  {form: `"ß"`, end: 6},
		4:  {form: "<ß>", end: 5},
		5:  {f: api.Fault{Err: api.ErrForm, At: 10}},
		6:  {f: api.Fault{Err: api.ErrForm, At: 7}},
		7:  {f: api.Fault{Err: api.ErrForm, At: 7}},
		8:  {form: "(<quote> <ü>)", end: 12},
		9:  {form: "(<quote> <ü>)", end: 12},
		10: {form: "<ü>", end: 12},
		11: {form: "<ü>", end: 12},
		12: {f: api.Fault{Err: api.ErrForm, At: 12}},
		13: {form: "233", end: 18},
		14: {form: "<x>", end: 15},
		15: {form: "233", end: 18},
		16: {form: "233", end: 18},
		17: {form: "<é>", end: 18},
		18: {f: api.Fault{Err: api.ErrEnd, At: 19}},
		19: {f: api.Fault{Err: api.ErrEnd, At: 19}},
	} {
		if want.f.Err == api.OK {
			wantForm(t, d, s, at, want.form, want.end)
		} else {
			wantFault(t, d, s, at, want.f.Err, want.f.At)
		}
	}
	for _, at := range []int{-2, -1, 20, 21} {
		wantFault(t, d, s, at, api.ErrRange, 0)
	}
}
