package read_test

import (
	"strings"
	"testing"

	"copyist/api"
	"copyist/read"
)

// opening is what opens something, what closes it, and how a form within it is shown.
type opening struct{ open, end, before, after string }

func openings() []opening {
	return []opening{
		{"(", ")", "(", ")"}, {"[", "]", "[", "]"}, {"'", "", "(<quote> ", ")"}, {"`", "", "(<`> ", ")"},
		{",", "", "(<,> ", ")"}, {",@", "", "(<,@> ", ")"}, {"#'", "", "(<function> ", ")"},
	}
}

func TestNesting(t *testing.T) {
	for _, x := range openings() {
		nested := func(n int, s, end string) string {
			return strings.Repeat(x.open, n) + s + strings.Repeat(end, n)
		}
		shown := func(n int, s string) string {
			return strings.Repeat(x.before, n) + s + strings.Repeat(x.after, n)
		}
		for _, n := range []int{1, api.MaxNest - 1, api.MaxNest} {
			s := nested(n, "a", x.end)
			wantForm(t, newDesk(1000), s, 0, shown(n, "<a>"), len(s))
			wantForm(t, newDesk(1000), "é ;(\n"+s+" b", 1, shown(n, "<a>"), 5+len(s))
			if t.Failed() {
				t.Fatal(x.open, n)
			}
		}
		for _, n := range []int{api.MaxNest + 1, api.MaxNest + 2, 100000} {
			d := newDesk(1000)
			wantFault(t, d, nested(n, "a", x.end), 0, api.ErrDepth, api.MaxNest*len(x.open))
			wantFault(t, d, nested(n, "", ""), 0, api.ErrDepth, api.MaxNest*len(x.open))
			wantAllFault(t, d, "é "+nested(n, "a", x.end), api.ErrDepth, 2+api.MaxNest*len(x.open))
			wantObjects(t, d)
		}
	}
}

// TestMixedNesting checks that each opening counts within each other one.
func TestMixedNesting(t *testing.T) {
	for _, x := range openings() {
		outer, end := strings.Repeat(x.open, api.MaxNest-1), strings.Repeat(x.end, api.MaxNest-1)
		for _, y := range openings() {
			d := newDesk(1000)
			s := outer + y.open + "##" + y.end + end
			wantForm(t, d, s, 0, strings.Repeat(x.before, api.MaxNest-1)+y.before+"<>"+y.after+strings.Repeat(x.after, api.MaxNest-1), len(s))
			wantFault(t, d, outer+y.open+" "+y.open+"a", 0, api.ErrDepth, len(outer+y.open)+1)
			wantFault(t, d, outer+"'"+y.open+"a", 0, api.ErrDepth, len(outer)+1)
			wantFault(t, d, outer+"'", 0, api.ErrForm, len(outer)+1)
		}
	}
}

// TestSiblings checks that a form is not open any more when it is complete.
func TestSiblings(t *testing.T) {
	outer, end := strings.Repeat("(", api.MaxNest-1), strings.Repeat(")", api.MaxNest-1)
	for _, x := range openings() {
		sibling := x.open + "1" + x.end + " "
		for _, s := range []string{sibling, "(" + sibling + ") ", "[" + sibling + "] ", "'" + sibling} {
			many := strings.Repeat(s, 2*api.MaxNest)
			d := newDesk(10000)
			if l, f := read.All(d.h, d.t, many); f.Err != api.OK || len(l) != 2*api.MaxNest {
				t.Errorf("%s: %d forms, %v", s, len(l), f)
			}
			if _, _, f := read.Read(d.h, d.t, "("+many+")", 0); f.Err != api.OK {
				t.Errorf("%s: %v", s, f)
			}
		}
		many := outer + strings.Repeat(sibling, 2*api.MaxNest) + end
		d := newDesk(10000)
		if _, at, f := read.Read(d.h, d.t, many, 0); f.Err != api.OK || at != len(many) {
			t.Errorf("%s: %v", sibling, f)
		}
		wantFault(t, d, outer+sibling+"''a", 0, api.ErrDepth, len(outer+sibling)+1)
	}
	d := newDesk(10000)
	wantFault(t, d, outer+"(1 . 2) (1 . (2))", 0, api.ErrDepth, len(outer)+13)
}

func TestNames(t *testing.T) {
	for _, c := range []struct{ in, out string }{{"a", "a"}, {"é", "é"}, {"一", "一"}, {"\U0001f600", "\U0001f600"}, {`\(`, "("}, {`\a`, "a"}} {
		d := newDesk(100)
		s := strings.Repeat(c.in, api.MaxName)
		wantForm(t, d, s, 0, "<"+strings.Repeat(c.out, api.MaxName)+">", length(s))
		wantForm(t, d, "é '"+s+"'", 2, "(<quote> <"+strings.Repeat(c.out, api.MaxName)+">)", 3+length(s))
		wantSymbols(t, d, strings.Repeat(c.out, api.MaxName))
		long := s + c.in
		wantFault(t, d, long, 0, api.ErrLong, 0)
		wantFault(t, d, long+long, 0, api.ErrLong, 0)
		wantFault(t, d, "é ;\n"+long+")", 1, api.ErrLong, 4)
		wantFault(t, d, "(b "+long, 0, api.ErrLong, 3)
		wantFault(t, d, "(b '"+long+")", 0, api.ErrLong, 4)
		wantFault(t, d, "(b . "+long+" c", 0, api.ErrLong, 5)
		wantAllFault(t, d, "é "+long, api.ErrLong, 2)
		// The length counts when the symbol has been read completely.
		wantFault(t, d, long+`\`, 0, api.ErrForm, length(long)+1)
		wantSymbols(t, d, strings.Repeat(c.out, api.MaxName), "b", "é")
	}
	digits := strings.Repeat("1", api.MaxName)
	d := newDesk(100)
	wantForm(t, d, digits[1:]+"x", 0, "<"+digits[1:]+"x>", api.MaxName)
	wantFault(t, d, digits+"x", 0, api.ErrLong, 0)
	wantFault(t, d, digits+"1", 0, api.ErrOver, 0)
	wantFault(t, d, "?"+digits, 0, api.ErrForm, 2)
	wantSymbols(t, d, digits[1:]+"x")
}

func TestLongStrings(t *testing.T) {
	for _, c := range []struct{ in, out string }{{"a", "a"}, {"é", "é"}, {"\U0001f600", "\U0001f600"}, {`\n`, "\n"}, {`\x41\`, "A"}} {
		d := newDesk(100)
		s := strings.Repeat(c.in, api.MaxChars)
		wantForm(t, d, `"`+s+`"`, 0, `"`+strings.Repeat(c.out, api.MaxChars)+`"`, length(s)+2)
		long := s + c.in
		wantFault(t, d, `"`+long+`"`, 0, api.ErrLong, 0)
		wantFault(t, d, "é ;\n("+`"`+long+`"`, 1, api.ErrLong, 5)
		wantAllFault(t, d, `é "`+long+`"]`, api.ErrLong, 2)
		// The length counts when the string has been read completely.
		wantFault(t, d, `"`+long, 0, api.ErrForm, length(long)+1)
		wantFault(t, d, `"`+long+`\`, 0, api.ErrForm, length(long)+2)
		wantFault(t, d, `"`+long+`\q"`, 0, api.ErrForm, length(long)+1)
		wantObjects(t, d, `"`+strings.Repeat(c.out, api.MaxChars)+`"`)
	}
	d := newDesk(100)
	s := `"` + strings.Repeat("\\\n", 1000) + strings.Repeat("a", api.MaxChars) + "\\\n\""
	wantForm(t, d, s, 0, `"`+strings.Repeat("a", api.MaxChars)+`"`, len(s))
}

func TestLongListsAndVectors(t *testing.T) {
	d := newDesk(api.MaxObjects)
	s := strings.Repeat("1 ", api.MaxChars)
	wantForm(t, d, "["+s+"]", 0, "["+s[:len(s)-1]+"]", len(s)+2)
	// No vector can have more elements.
	wantFault(t, d, " ["+s+"1]", 0, api.ErrFull, 1)
	wantFault(t, d, "["+s+"1", 0, api.ErrForm, len(s)+2)
	if d.h.Many() != 1 {
		t.Error(d.h.Many())
	}
	wantForm(t, d, "("+s[2:]+")", 0, "("+s[2:len(s)-1]+")", len(s))
	if d.h.Many() != api.MaxObjects {
		t.Error(d.h.Many())
	}
	wantFault(t, d, " (1)", 0, api.ErrFull, 1)
	d = newDesk(api.MaxObjects)
	wantFault(t, d, " ("+s+"1)", 0, api.ErrFull, 1)
	if d.h.Many() != api.MaxObjects {
		t.Error(d.h.Many())
	}
}
