package names_test

import (
	"strings"
	"testing"

	"copyist/api"
	"copyist/names"
)

func TestFixed(t *testing.T) {
	x := names.New()
	if x.Many() != api.FixedSyms || len(fixed) != api.FixedSyms {
		t.Fatal(x.Many(), len(fixed))
	}
	for n, s := range fixed {
		wantName(t, x, n, s, true)
		wantFind(t, x, s, n, true)
		if !x.Interned(n) {
			t.Errorf("%d is not interned", n)
		}
		wantFunc(t, x, n, none, false)
		wantProps(t, x, n)
		i, e := x.Intern(s)
		wantSym(t, "Intern "+s, i, e, n, api.OK)
	}
	if x.Many() != api.FixedSyms {
		t.Error(x.Many())
	}
}

func TestExamples(t *testing.T) {
	x := names.New()
	n, e := x.Intern("car")
	wantSym(t, "Intern", n, e, 62, api.OK)
	n, e = x.Intern("car")
	wantSym(t, "Intern again", n, e, 62, api.OK)
	n, e = x.Fresh("car")
	wantSym(t, "Fresh", n, e, 63, api.OK)
	wantFind(t, x, "car", 62, true)

	x = names.New()
	n, e = x.Intern("nil")
	wantSym(t, "Intern", n, e, 0, api.OK)
	wantName(t, x, 5, ",", true)

	x = names.New()
	wantErr(t, "SetFunc of t", x.SetFunc(1, five), api.ErrConst)
	wantErr(t, "SetFunc of none", x.SetFunc(100, five), api.ErrUnknown)
}

// makers is the functions that make symbols.
func makers(x *names.Table) map[string]func(string) (int, api.Errno) {
	return map[string]func(string) (int, api.Errno){"Intern": x.Intern, "Fresh": x.Fresh}
}

func TestNameErrors(t *testing.T) {
	long := strings.Repeat("a", api.MaxName+1)
	for _, c := range []struct {
		s    string
		want api.Errno
	}{
		{"\xff", api.ErrForm},
		{"a\xed\xa0\x80", api.ErrForm}, // a surrogate
		{"\xc0\x80", api.ErrForm},      // overlong
		{"a\xe2\x82", api.ErrForm},     // cut
		{long, api.ErrLong},
		{strings.Repeat("é", api.MaxName+1), api.ErrLong},
		{long + "\xff", api.ErrForm}, // both
	} {
		x := names.New()
		for what, make := range makers(x) {
			n, e := make(c.s)
			wantSym(t, what, n, e, 0, c.want)
		}
		wantFind(t, x, c.s, 0, false)
		if x.Many() != api.FixedSyms {
			t.Errorf("%.10q: %d symbols", c.s, x.Many())
		}
	}
}

func TestNamesThatArePossible(t *testing.T) {
	l := []string{
		"", " ", "a b", "\x00", "\n", "Nil", "NIL", "é", "e\u0301", "世界", "\U0010ffff",
		strings.Repeat("a", api.MaxName), strings.Repeat("a", api.MaxName-1),
		strings.Repeat("\U0010ffff", api.MaxName),
	}
	x := names.New()
	for i, s := range l {
		wantFind(t, x, s, 0, false)
		n, e := x.Intern(s)
		wantSym(t, "Intern", n, e, api.FixedSyms+i, api.OK)
	}
	for i, s := range l {
		wantName(t, x, api.FixedSyms+i, s, true)
		wantFind(t, x, s, api.FixedSyms+i, true)
	}
	for i, s := range l {
		n, e := x.Fresh(s)
		wantSym(t, "Fresh", n, e, api.FixedSyms+len(l)+i, api.OK)
		wantName(t, x, n, s, true)
		wantFind(t, x, s, api.FixedSyms+i, true)
	}
}

func TestUninterned(t *testing.T) {
	x := names.New()
	a, _ := x.Fresh("a")
	b, _ := x.Fresh("a")
	wantFind(t, x, "a", 0, false)
	c, _ := x.Intern("a")
	d, _ := x.Fresh("a")
	again, _ := x.Intern("a")
	if a != 62 || b != 63 || c != 64 || d != 65 || again != c {
		t.Error(a, b, c, d, again)
	}
	wantFind(t, x, "a", c, true)
	for _, n := range []int{a, b, c, d} {
		wantName(t, x, n, "a", true)
		if x.Interned(n) != (n == c) {
			t.Errorf("Interned(%d): %v", n, x.Interned(n))
		}
	}
	n, e := x.Fresh("nil")
	wantSym(t, "Fresh nil", n, e, 66, api.OK)
	wantFind(t, x, "nil", api.SymNil, true)
	// A symbol that only looks like a constant is not one.
	wantErr(t, "SetFunc of a fresh nil", x.SetFunc(n, five), api.OK)
	wantFunc(t, x, api.SymNil, none, false)
}

func TestNoSuchSymbol(t *testing.T) {
	x := names.New()
	for _, n := range []int{-1, -api.MaxInt, api.FixedSyms, api.FixedSyms + 1, api.MaxSyms, api.MaxInt} {
		wantName(t, x, n, "", false)
		if x.Interned(n) {
			t.Errorf("Interned(%d)", n)
		}
		wantFunc(t, x, n, none, false)
		wantProp(t, x, n, 0, none, false)
		wantProps(t, x, n)
	}
}

func TestFull(t *testing.T) {
	x := names.New()
	own, _ := x.Fresh("own")
	fill(t, x)
	for what, make := range makers(x) {
		n, e := make("new")
		wantSym(t, what, n, e, 0, api.ErrFull)
		n, e = make("\xff")
		wantSym(t, what+" of an invalid name", n, e, 0, api.ErrForm)
		n, e = make(strings.Repeat("a", api.MaxName+1))
		wantSym(t, what+" of a long name", n, e, 0, api.ErrLong)
	}
	n, e := x.Fresh("nil")
	wantSym(t, "Fresh of a name that is there", n, e, 0, api.ErrFull)
	n, e = x.Intern("own")
	wantSym(t, "Intern of the name of an uninterned symbol", n, e, 0, api.ErrFull)
	n, e = x.Intern("quote")
	wantSym(t, "Intern of a name that is there", n, e, api.SymQuote, api.OK)
	wantFind(t, x, "new", 0, false)
	wantFind(t, x, "own", 0, false)
	if x.Many() != api.MaxSyms || x.Interned(own) || !x.Interned(api.MaxSyms-1) {
		t.Error(x.Many(), own)
	}
	last := api.MaxSyms - 1
	wantErr(t, "SetFunc", x.SetFunc(last, five), api.OK)
	wantErr(t, "SetProp", x.SetProp(last, last, six), api.OK)
	wantErr(t, "SetProp above", x.SetProp(last, last+1, six), api.ErrUnknown)
	wantFunc(t, x, last, five, true)
	wantProp(t, x, last, last, six, true)
	n, e = x.Copy().Intern("new")
	wantSym(t, "Intern in a copy", n, e, 0, api.ErrFull)
}

// TestPlentyOfRoom checks that a table is full at MaxSyms symbols and not before, with uninterned ones too.
func TestPlentyOfRoom(t *testing.T) {
	x := names.New()
	for i := api.FixedSyms; i < api.MaxSyms; i++ {
		if n, e := x.Fresh("a"); n != i || e != api.OK {
			t.Fatal(i, n, e)
		}
	}
	n, e := x.Fresh("a")
	wantSym(t, "Fresh", n, e, 0, api.ErrFull)
}

func TestInvalid(t *testing.T) {
	for what, x := range invalid() {
		n, e := x.Intern("nil")
		wantSym(t, what+": Intern", n, e, 0, api.ErrNil)
		n, e = x.Intern("\xff")
		wantSym(t, what+": Intern", n, e, 0, api.ErrNil)
		n, e = x.Fresh("a")
		wantSym(t, what+": Fresh", n, e, 0, api.ErrNil)
		n, e = x.Fresh("\xff")
		wantSym(t, what+": Fresh", n, e, 0, api.ErrNil)
		wantFind(t, x, "nil", 0, false)
		wantName(t, x, 0, "", false)
		wantFunc(t, x, 0, none, false)
		wantErr(t, what+": SetFunc", x.SetFunc(2, five), api.ErrNil)
		wantErr(t, what+": SetFunc of nil", x.SetFunc(0, five), api.ErrNil)
		wantErr(t, what+": ClearFunc", x.ClearFunc(2), api.ErrNil)
		wantErr(t, what+": ClearFunc of nil", x.ClearFunc(0), api.ErrNil)
		wantProp(t, x, 0, 0, none, false)
		wantErr(t, what+": SetProp", x.SetProp(2, 2, five), api.ErrNil)
		wantErr(t, what+": SetProp of none", x.SetProp(-1, 2, five), api.ErrNil)
		wantProps(t, x, 0)
		if x.Interned(0) || x.Many() != 0 {
			t.Errorf("%s: %v, %d", what, x.Interned(0), x.Many())
		}
		o := x.Copy()
		n, e = o.Intern("nil")
		wantSym(t, what+": Intern in a copy", n, e, 0, api.ErrNil)
		if o.Many() != 0 {
			t.Errorf("%s: a copy has %d symbols", what, o.Many())
		}
	}
}

func TestTablesAreIndependent(t *testing.T) {
	x, y := names.New(), names.New()
	x.Intern("a")
	x.SetFunc(2, five)
	x.SetProp(2, 3, six)
	wantFind(t, y, "a", 0, false)
	wantFunc(t, y, 2, none, false)
	wantProps(t, y, 2)
	if y.Many() != api.FixedSyms {
		t.Error(y.Many())
	}
}
