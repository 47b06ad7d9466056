package show_test

import (
	"strings"
	"testing"

	"copyist/api"
)

// opening is a bracket or prefix, what ends it, and how a word that begins with it is made.
type opening struct {
	open, end string
	around    func(d desk, x api.Word) api.Word
}

func vectors() opening {
	return opening{"[", "]", func(d desk, x api.Word) api.Word { return d.vec(x) }}
}

func openings() []opening {
	l := []opening{
		{"(", ")", func(d desk, x api.Word) api.Word { return d.list(x) }},
		{"(", " . 1)", func(d desk, x api.Word) api.Word { return d.dotted(integer(1), x) }},
		{"(1 ", ")", func(d desk, x api.Word) api.Word { return d.list(integer(1), x) }},
		vectors(),
	}
	for n, prefix := range prefixes() {
		l = append(l, opening{prefix, "", func(d desk, x api.Word) api.Word { return d.list(symbol(n), x) }})
	}
	return l
}

func (x opening) nested(d desk, n int, w api.Word) api.Word {
	for range n {
		w = x.around(d, w)
	}
	return w
}

func (x opening) text(n int, s string) string {
	return strings.Repeat(x.open, n) + s + strings.Repeat(x.end, n)
}

func TestNesting(t *testing.T) {
	for _, x := range openings() {
		d := newDesk()
		for _, n := range []int{1, api.MaxNest - 1, api.MaxNest} {
			d.wantTexts(t, x.nested(d, n, integer(7)), x.text(n, "7"), x.text(n, "7"))
		}
		d.wantTexts(t, x.nested(d, api.MaxNest, d.str("((")), x.text(api.MaxNest, `"(("`), x.text(api.MaxNest, "(("))
		for _, n := range []int{api.MaxNest + 1, api.MaxNest + 2, 1000} {
			d.wantError(t, x.nested(d, n, integer(7)), api.ErrDepth)
			d.wantError(t, x.nested(d, n, symbol(-1)), api.ErrDepth)
		}
		d.wantError(t, x.nested(d, api.MaxNest, symbol(-1)), api.ErrUnknown)
		for _, kind := range append(objectKinds, 11) {
			d.wantError(t, x.nested(d, api.MaxNest, dead(kind)), api.ErrType)
			d.wantError(t, x.nested(d, api.MaxNest+1, dead(kind)), api.ErrDepth)
		}
	}
}

// TestMixedNesting checks that each opening counts within each other one, also if it is empty.
func TestMixedNesting(t *testing.T) {
	const n = api.MaxNest - 1
	for _, x := range openings() {
		d := newDesk()
		for _, y := range openings() {
			s := x.text(n, y.text(1, "nil"))
			d.wantTexts(t, x.nested(d, n, y.around(d, lispNil)), s, s)
			d.wantError(t, x.nested(d, n, y.around(d, vectors().around(d, lispNil))), api.ErrDepth)
			d.wantError(t, x.nested(d, n, vectors().around(d, y.around(d, lispNil))), api.ErrDepth)
		}
		d.wantTexts(t, x.nested(d, n, d.vec()), x.text(n, "[]"), x.text(n, "[]"))
		d.wantError(t, x.nested(d, n+1, d.vec()), api.ErrDepth)
	}
}

// TestSiblings checks that nothing is open any more when it is complete.
func TestSiblings(t *testing.T) {
	for _, x := range openings() {
		d := newDesk()
		w, s := x.around(d, lispNil), x.text(1, "nil")
		var l []api.Word
		for range 2 * api.MaxNest {
			l = append(l, w)
		}
		all := strings.TrimSuffix(strings.Repeat(s+" ", len(l)), " ")
		for text, many := range map[string]api.Word{
			"(" + all + ")": d.list(l...), "[" + all + "]": d.vec(l...), "(" + all + " . 1)": d.dotted(integer(1), l...), "(" + all + " . [])": d.dotted(d.vec(), l...),
		} {
			n := api.MaxNest - 2
			d.wantTexts(t, vectors().nested(d, n, many), vectors().text(n, text), vectors().text(n, text))
			d.wantError(t, vectors().nested(d, n+1, many), api.ErrDepth)
		}
		deep, text := vectors().nested(d, api.MaxNest-1, w), vectors().text(api.MaxNest-1, s)
		d.wantAll(t, true, text+" "+text+" "+s, deep, deep, w)
		d.wantAllError(t, true, api.ErrDepth, deep, d.vec(deep), symbol(-1))
	}
}

// TestNestingAtTheEnd checks that the conses of a list open nothing, but what is behind its dot does.
func TestNestingAtTheEnd(t *testing.T) {
	d := newDesk()
	atEnd := opening{"(1 . [", "])", func(d desk, x api.Word) api.Word { return d.dotted(d.vec(x), integer(1)) }}
	d.wantTexts(t, atEnd.nested(d, api.MaxNest/2, lispNil), atEnd.text(api.MaxNest/2, "nil"), atEnd.text(api.MaxNest/2, "nil"))
	d.wantError(t, atEnd.nested(d, api.MaxNest/2+1, lispNil), api.ErrDepth)
	d.wantError(t, atEnd.nested(d, api.MaxNest/2, d.vec()), api.ErrDepth)
	w := lispNil
	for range 1000 {
		w = d.cons(symbol(api.SymQuote), w)
	}
	many := "(" + strings.Repeat("quote ", 999) + "quote)"
	d.wantTexts(t, w, many, many)
}

func TestCircles(t *testing.T) {
	d := newDesk()
	one := integer(1)
	endless := d.cons(one, lispNil)
	d.h.SetCdr(endless, endless)
	d.wantError(t, endless, api.ErrLong)
	ring := d.list(one, one, one)
	d.h.SetCdr(must(d.h.Cdr(must(d.h.Cdr(ring)))), ring)
	d.wantError(t, ring, api.ErrLong)
	blank := d.cons(d.str(""), lispNil)
	d.h.SetCdr(blank, blank)
	d.wantError(t, blank, api.ErrLong)
	deep := d.cons(lispNil, lispNil)
	d.h.SetCar(deep, deep)
	d.wantError(t, deep, api.ErrDepth)
	d.h.SetCdr(deep, deep)
	d.wantError(t, deep, api.ErrDepth)
	vector := d.vec(one, lispNil)
	d.h.SetAt(vector, 1, vector)
	d.wantError(t, vector, api.ErrDepth)
	for n := range prefixes() {
		quoted := d.list(symbol(n), one)
		d.h.SetCar(must(d.h.Cdr(quoted)), quoted)
		d.wantError(t, quoted, api.ErrDepth)
		endless := d.list(symbol(n), one)
		d.h.SetCdr(must(d.h.Cdr(endless)), endless)
		d.wantError(t, endless, api.ErrLong)
		self := d.cons(symbol(n), lispNil)
		d.h.SetCdr(self, self)
		d.wantError(t, self, api.ErrLong)
	}
	wide := one
	for range 100 {
		wide = d.vec(wide, wide)
	}
	d.wantError(t, wide, api.ErrLong)
}
