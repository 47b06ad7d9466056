package show_test

import (
	"strings"
	"testing"

	"copyist/api"
	"copyist/show"
)

// TestLimitOfOneWord checks words with texts of MaxChars characters, and one more.
func TestLimitOfOneWord(t *testing.T) {
	d := newDesk()
	for _, escape := range both {
		w := d.pad(api.MaxChars, escape)
		s := must(d.h.TextOf(w))
		if escape {
			s = `"` + s + `"`
		}
		d.wantText(t, w, escape, s)
	}
	for _, c := range []string{"a", "é", "一", "\U0001f600"} {
		all := strings.Repeat(c, api.MaxChars)
		d.wantText(t, d.str(all), false, all)
		d.wantErrorOf(t, d.str(all), true, api.ErrLong)
		d.wantErrorOf(t, d.str(strings.Repeat(c, api.MaxChars-1)), true, api.ErrLong)
		w := d.str(strings.Repeat(c, api.MaxChars-2))
		d.wantText(t, w, true, `"`+strings.Repeat(c, api.MaxChars-2)+`"`)
		d.h.Collect(nil)
	}
	half := strings.Repeat(`"`, api.MaxChars/2-1)
	d.wantText(t, d.str(half), true, `"`+strings.Repeat(`\"`, api.MaxChars/2-1)+`"`)
	d.wantErrorOf(t, d.str(half+"a"), true, api.ErrLong)
	d.wantErrorOf(t, d.str(half+`\`), true, api.ErrLong)
}

// TestLimitInEachPlace moves the limit over texts behind a string of growing length.
func TestLimitInEachPlace(t *testing.T) {
	d := newDesk()
	quote := symbol(api.SymQuote)
	words := []struct {
		w              api.Word
		escaped, plain string
	}{
		{integer(-123), "-123", "-123"},
		{d.interned("é b"), `é\ b`, "é b"},
		{d.interned("12"), `\12`, "12"},
		{d.interned(""), "##", ""},
		{d.fresh("?"), `#:\?`, "#:?"},
		{d.str(`é"`), `"é\""`, `é"`},
		{api.Word{Kind: api.KindPrim, N: api.SymIf}, "#<subr if>", "#<subr if>"},
		{must(d.h.Code(api.Code{Bytes: []byte{1}})), "#<code 1>", "#<code 1>"},
		{api.Word{Kind: api.KindOver, N: -1}, "#<overlay -1>", "#<overlay -1>"},
		{d.list(quote, integer(1)), "'1", "'1"},
		{d.list(symbol(api.SymFunction), d.list(symbol(api.SymSplice), integer(1))), "#',@1", "#',@1"},
		{d.list(integer(1), d.list(integer(2)), lispNil), "(1 (2) nil)", "(1 (2) nil)"},
		{d.dotted(d.str("x"), integer(1)), `(1 . "x")`, "(1 . x)"},
		{d.vec(), "[]", "[]"},
		{d.vec(d.vec(integer(1)), integer(2)), "[[1] 2]", "[[1] 2]"},
		{d.list(d.str(""), d.str("")), `("" "")`, "( )"},
	}
	for _, x := range words {
		for _, escape := range both {
			want := x.plain
			if escape {
				want = x.escaped
			}
			for n := range length(want) + 3 {
				checkLimit(t, d, x.w, escape, want, n)
			}
		}
	}
}

// checkLimit shows a word behind a string so that n characters are left for it and one bracket.
func checkLimit(t *testing.T, d desk, w api.Word, escape bool, want string, n int) {
	t.Helper()
	d = desk{d.h.Copy(), d.t}
	pad := d.pad(api.MaxChars-2-n, escape)
	before := must(show.Text(d.h, d.t, pad, escape)) + " "
	if n > length(want) {
		d.wantText(t, d.vec(pad, w), escape, "["+before+want+"]")
	} else {
		d.wantErrorOf(t, d.vec(pad, w), escape, api.ErrLong)
	}
	// There is no bracket.
	if n+1 >= length(want) {
		d.wantAll(t, escape, before+want, pad, w)
	} else {
		d.wantAllError(t, escape, api.ErrLong, pad, w)
	}
	// The blank before an error counts, but nothing behind the error.
	e := api.ErrType
	if n < length(want)+1 {
		e = api.ErrLong
	}
	d.wantErrorOf(t, d.list(pad, w, dead(api.KindCons)), escape, e)
}

// TestLimitAndOtherErrors checks which of two errors at one place is returned.
func TestLimitAndOtherErrors(t *testing.T) {
	for _, escape := range both {
		for left := range 4 {
			d := newDesk()
			pad := d.pad(api.MaxChars-1-left, escape) // behind it and its bracket
			want := func(least int, e api.Errno) api.Errno {
				if left < least {
					return api.ErrLong
				}
				return e
			}
			for _, x := range []struct {
				w api.Word
				e api.Errno
			}{{symbol(-1), api.ErrUnknown}, {api.Word{Kind: api.KindPrim, N: -1}, api.ErrUnknown}, {dead(api.KindText), api.ErrType}, {dead(api.KindCons), api.ErrType}, {api.Word{Kind: -1}, api.ErrType}} {
				d.wantErrorOf(t, d.list(pad, x.w), escape, want(1, x.e))
				d.wantErrorOf(t, d.vec(pad, x.w), escape, want(1, x.e))
				d.wantErrorOf(t, d.dotted(x.w, pad), escape, want(3, x.e))
				d.wantErrorOf(t, d.vec(pad, d.vec(x.w)), escape, want(2, x.e))
				d.wantErrorOf(t, d.vec(pad, d.list(symbol(api.SymQuote), x.w)), escape, want(2, x.e))
				d.wantErrorOf(t, d.vec(pad, d.list(symbol(api.SymSplice), x.w)), escape, want(3, x.e))
			}
		}
	}
}

// TestLimitAndDepth checks that ErrDepth comes first where a bracket or prefix would cause both.
func TestLimitAndDepth(t *testing.T) {
	for _, x := range openings() {
		for _, escape := range both {
			for left := range 3 {
				d := newDesk()
				pad := d.pad(api.MaxChars-api.MaxNest-left, escape)
				e := api.ErrDepth
				if left == 0 {
					e = api.ErrLong // the blank is left of the bracket
				}
				d.wantErrorOf(t, vectors().nested(d, api.MaxNest-1, d.vec(pad, x.around(d, integer(1)))), escape, e)
			}
		}
	}
	// The text is full with the brackets that are open: only a bracket that follows another one has no blank before it.
	d := newDesk()
	pad := d.pad(api.MaxChars-api.MaxNest-1, true)
	for _, x := range openings() {
		w := x.around(d, integer(1))
		d.wantErrorOf(t, vectors().nested(d, api.MaxNest-2, d.vec(pad, d.vec(w))), true, api.ErrDepth)
		d.wantErrorOf(t, vectors().nested(d, api.MaxNest-2, d.vec(pad, d.list(symbol(api.SymQuote), w))), true, api.ErrDepth)
		d.wantErrorOf(t, vectors().nested(d, api.MaxNest-3, d.vec(pad, d.vec(w))), true, api.ErrLong)
		d.wantErrorOf(t, vectors().nested(d, api.MaxNest-3, d.vec(pad, d.vec(dead(api.KindVec)))), true, api.ErrType)
	}
}

// TestLimitOfAll checks that the texts of all words together are limited, and that an error of a word comes before that.
func TestLimitOfAll(t *testing.T) {
	for _, escape := range both {
		d := newDesk()
		full, almost := d.pad(api.MaxChars, escape), d.pad(api.MaxChars-2, escape)
		text := must(d.h.TextOf(almost))
		if escape {
			text = `"` + text + `"`
		}
		one, empty, bad := integer(1), d.interned(""), dead(api.KindCons)
		d.wantAll(t, escape, text+" 1", almost, one)
		d.wantAll(t, escape, "1 "+text, one, almost)
		d.wantAllError(t, escape, api.ErrLong, almost, integer(12))
		d.wantAllError(t, escape, api.ErrLong, integer(12), almost)
		d.wantAllError(t, escape, api.ErrLong, almost, one, empty)
		d.wantAllError(t, escape, api.ErrLong, full, one)
		d.wantAllError(t, escape, api.ErrLong, full, empty)
		d.wantAllError(t, escape, api.ErrLong, full, full)
		d.wantAllError(t, escape, api.ErrLong, full, one, bad)
		d.wantAllError(t, escape, api.ErrLong, almost, integer(12), symbol(-1))
		d.wantAllError(t, escape, api.ErrType, full, bad)
		d.wantAllError(t, escape, api.ErrUnknown, full, symbol(-1))
		d.wantAllError(t, escape, api.ErrType, almost, d.list(integer(123), bad))
		d.wantAllError(t, escape, api.ErrDepth, full, vectors().nested(d, api.MaxNest+1, one))
	}
	d := newDesk()
	empty := d.str("")
	many := make([]api.Word, api.MaxChars+2)
	for i := range many {
		many[i] = empty
	}
	d.wantAll(t, false, strings.Repeat(" ", api.MaxChars), many[1:]...)
	d.wantAllError(t, false, api.ErrLong, many...)
	many = make([]api.Word, api.MaxChars/2+1)
	d.wantAll(t, true, strings.Repeat("0 ", api.MaxChars/2-1)+"0", many[1:]...)
	d.wantAllError(t, true, api.ErrLong, many...)
	d.wantAllError(t, true, api.ErrType, append(many[2:], dead(api.KindVec))...)
}
