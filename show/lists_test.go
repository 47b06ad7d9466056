package show_test

import (
	"strings"
	"testing"

	"copyist/api"
)

// prefixes returns the symbols that stand for prefixes.
func prefixes() map[int]string {
	return map[int]string{api.SymQuote: "'", api.SymBack: "`", api.SymComma: ",", api.SymSplice: ",@", api.SymFunction: "#'"}
}

func TestLists(t *testing.T) {
	d := newDesk()
	a, b := d.interned("a"), d.interned("b c")
	d.wantTexts(t, d.list(), "nil", "nil")
	d.wantTexts(t, d.list(a), "(a)", "(a)")
	d.wantTexts(t, d.list(a, b), `(a b\ c)`, "(a b c)")
	d.wantTexts(t, d.list(lispNil), "(nil)", "(nil)")
	d.wantTexts(t, d.list(lispNil, lispNil, lispNil), "(nil nil nil)", "(nil nil nil)")
	d.wantTexts(t, d.list(integer(1), d.str("x\ny"), d.list(), d.list(d.list(integer(2))), d.vec()), "(1 \"x\ny\" nil ((2)) [])", "(1 x\ny nil ((2)) [])")
	d.wantTexts(t, d.list(d.list(a), d.list(a, a)), "((a) (a a))", "((a) (a a))")
	d.wantTexts(t, d.list(d.str(""), d.interned(""), d.str("")), `("" ## "")`, "(  )")
}

func TestDottedLists(t *testing.T) {
	d := newDesk()
	a, u := d.interned("a"), d.fresh("nil")
	d.wantTexts(t, d.dotted(integer(2), integer(1)), "(1 . 2)", "(1 . 2)")
	d.wantTexts(t, d.dotted(a, a, a, a), "(a a a . a)", "(a a a . a)")
	d.wantTexts(t, d.dotted(symbol(api.SymT), a), "(a . t)", "(a . t)")
	d.wantTexts(t, d.dotted(u, a), "(a . #:nil)", "(a . #:nil)")
	d.wantTexts(t, d.dotted(integer(0), a), "(a . 0)", "(a . 0)")
	d.wantTexts(t, d.dotted(d.interned("."), d.interned(".")), `(\. . \.)`, "(. . .)")
	d.wantTexts(t, d.dotted(d.str(""), a), `(a . "")`, "(a . )")
	d.wantTexts(t, d.dotted(d.vec(a, a), a), "(a . [a a])", "(a . [a a])")
	d.wantTexts(t, d.dotted(api.Word{Kind: api.KindBuffer, N: 0}, a), "(a . #<buffer 0>)", "(a . #<buffer 0>)")
	d.wantTexts(t, d.dotted(d.list(a, a), a), "(a a a)", "(a a a)")
	d.wantTexts(t, d.cons(d.dotted(a, a), d.dotted(a, a)), "((a . a) a . a)", "((a . a) a . a)")
}

func TestVectors(t *testing.T) {
	d := newDesk()
	a := d.interned("a b")
	d.wantTexts(t, d.vec(), "[]", "[]")
	d.wantTexts(t, d.vec(a), `[a\ b]`, "[a b]")
	d.wantTexts(t, d.vec(integer(1), a, d.str("\"")), `[1 a\ b "\""]`, `[1 a b "]`)
	d.wantTexts(t, d.vec(d.vec(), d.vec(d.vec()), d.list(d.vec(lispNil))), "[[] [[]] ([nil])]", "[[] [[]] ([nil])]")
	d.wantTexts(t, d.list(d.vec(d.list(d.vec()))), "([([])])", "([([])])")
	d.wantTexts(t, d.vec(symbol(api.SymQuote), a), `[quote a\ b]`, "[quote a b]")
	d.wantTexts(t, d.vec(d.str(""), d.str("")), `["" ""]`, "[ ]")
}

func TestPrefixes(t *testing.T) {
	d := newDesk()
	x := d.interned("x y")
	for n, prefix := range prefixes() {
		q := symbol(n)
		one := d.list(q, x)
		d.wantTexts(t, one, prefix+`x\ y`, prefix+"x y")
		d.wantTexts(t, d.list(q, lispNil), prefix+"nil", prefix+"nil")
		d.wantTexts(t, d.list(q, d.interned("")), prefix+"##", prefix)
		d.wantTexts(t, d.list(q, d.interned("@")), prefix+`\@`, prefix+"@")
		d.wantTexts(t, d.list(q, d.interned("'")), prefix+`\'`, prefix+"'")
		d.wantTexts(t, d.list(q, d.str("")), prefix+`""`, prefix)
		d.wantTexts(t, d.list(q, d.fresh("x")), prefix+"#:x", prefix+"#:x")
		d.wantTexts(t, d.list(q, d.vec(one)), prefix+"["+prefix+`x\ y]`, prefix+"["+prefix+"x y]")
		d.wantTexts(t, d.list(q, d.list(integer(1), integer(2))), prefix+"(1 2)", prefix+"(1 2)")
		d.wantTexts(t, d.list(one, one), "("+prefix+`x\ y `+prefix+`x\ y)`, "("+prefix+"x y "+prefix+"x y)")
		d.wantTexts(t, d.dotted(integer(1), one), "("+prefix+`x\ y . 1)`, "("+prefix+"x y . 1)")
		for m, other := range prefixes() {
			d.wantTexts(t, d.list(q, d.list(symbol(m), integer(1))), prefix+other+"1", prefix+other+"1")
			name, _ := d.t.Name(m)
			escaped := map[string]string{"'": name, "#'": name}[other]
			if escaped == "" {
				escaped = `\` + name
			}
			d.wantTexts(t, d.list(q, symbol(m)), prefix+escaped, prefix+name)
		}
	}
}

// TestAlmostPrefixes checks the lists that only look like those with a prefix.
func TestAlmostPrefixes(t *testing.T) {
	d := newDesk()
	x := d.interned("x")
	for n, prefix := range prefixes() {
		q := symbol(n)
		name, _ := d.t.Name(n)
		escaped := name
		if prefix != "'" && prefix != "#'" {
			escaped = `\` + name
		}
		want := func(w api.Word, rest string) {
			t.Helper()
			d.wantTexts(t, w, "("+escaped+rest, "("+name+rest)
		}
		want(d.list(q), ")")
		want(d.list(q, x, x), " x x)")
		want(d.list(q, lispNil, lispNil), " nil nil)")
		want(d.dotted(x, q), " . x)")
		want(d.dotted(integer(0), q), " . 0)")
		want(d.dotted(d.vec(x), q), " . [x])")
		want(d.dotted(x, q, x), " x . x)")
		want(d.dotted(symbol(api.SymT), q, x), " x . t)")
		want(d.dotted(d.fresh("nil"), q, x), " x . #:nil)")
		want(d.dotted(integer(0), q, x), " x . 0)")
		want(d.dotted(d.vec(), q, x), " x . [])")
		// The list behind a dot is no word of its own.
		d.wantTexts(t, d.list(x, q, x), "(x "+escaped+" x)", "(x "+name+" x)")
		d.wantTexts(t, d.list(d.list(q, x), q, x), "("+prefix+"x "+escaped+" x)", "("+prefix+"x "+name+" x)")
		d.wantTexts(t, d.list(d.fresh(name), x), "(#:"+escaped+" x)", "(#:"+name+" x)")
		d.wantTexts(t, d.list(d.str(name), x), `("`+name+`" x)`, "("+name+" x)")
		d.wantTexts(t, d.list(integer(n), x), "("+string(rune('0'+n))+" x)", "("+string(rune('0'+n))+" x)")
		d.wantTexts(t, d.list(d.list(q), x), "(("+escaped+") x)", "(("+name+") x)")
		prim := api.Word{Kind: api.KindPrim, N: n}
		d.wantTexts(t, d.list(prim, x), "(#<subr "+name+"> x)", "(#<subr "+name+"> x)")
		d.wantTexts(t, d.list(api.Word{Kind: api.KindBuffer, N: n}, x), "(#<buffer "+string(rune('0'+n))+"> x)", "(#<buffer "+string(rune('0'+n))+"> x)")
	}
	for n := range api.FixedSyms {
		name, _ := d.t.Name(n)
		if prefixes()[n] == "" {
			d.wantTexts(t, d.list(symbol(n), x), "("+name+" x)", "("+name+" x)")
		}
	}
}

func TestLongLists(t *testing.T) {
	d := newDesk()
	var l []api.Word
	for range 10000 {
		l = append(l, integer(5))
	}
	ten := strings.TrimSuffix(strings.Repeat("5 ", 10000), " ")
	d.wantTexts(t, d.list(l...), "("+ten+")", "("+ten+")")
	d.wantTexts(t, d.dotted(integer(6), l...), "("+ten+" . 6)", "("+ten+" . 6)")
	d.wantTexts(t, d.vec(l...), "["+ten+"]", "["+ten+"]")
	d.wantAll(t, true, ten, l...)
}
