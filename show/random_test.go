package show_test

import (
	"math/rand"
	"regexp"
	"slices"
	"strconv"
	"strings"
	"testing"

	"copyist/api"
	"copyist/heap"
	"copyist/read"
	"copyist/show"
)

// step is a part of what is shown from left to right: a text, escaped and plain, or what opens or closes, or an error.
type step struct {
	escaped, plain string
	opens          int
	err            api.Errno
}

// tree is a word and how it is shown.
type tree struct {
	word  api.Word
	steps []step
	parts []*tree // of a list
	last  *tree   // of a list: what its last cdr is
}

// text is the text of a step.
func (x step) text(escape bool) string {
	if escape {
		return x.escaped
	}
	return x.plain
}

// outcome is what is shown of steps.
func outcome(steps []step, escape bool) (string, api.Errno) {
	text, chars, open := "", 0, 0
	for _, x := range steps {
		open += x.opens
		if x.opens > 0 && open > api.MaxNest {
			return "", api.ErrDepth
		}
		if x.err != api.OK {
			return "", x.err
		}
		text += x.text(escape)
		chars += length(x.text(escape))
		if chars > api.MaxChars {
			return "", api.ErrLong
		}
	}
	return text, api.OK
}

func same(s string) step { return step{escaped: s, plain: s} }

func opened(s string) step { return step{escaped: s, plain: s, opens: 1} }

func closed(s string) step { return step{escaped: s, plain: s, opens: -1} }

// author makes random words.
type author struct {
	*rand.Rand
	desk
	faults bool // make words without a text, too
}

func newAuthor(seed int) *author {
	return &author{Rand: rand.New(rand.NewSource(int64(seed))), desk: newDesk()}
}

func (a *author) tree(depth int) *tree {
	kind := a.Intn(10)
	if depth == 0 {
		kind = 9
	}
	switch {
	case kind < 4:
		var parts []*tree
		for range 1 + a.Intn(3) {
			parts = append(parts, a.tree(depth-1))
		}
		last := a.symbolOf(api.SymNil)
		if a.Intn(3) == 0 {
			last = a.tree(depth - 1)
		}
		return a.listOf(parts, last)
	case kind < 6:
		prefix := []int{api.SymQuote, api.SymBack, api.SymComma, api.SymSplice, api.SymFunction}[a.Intn(5)]
		return a.listOf([]*tree{a.symbolOf(prefix), a.tree(depth - 1)}, a.symbolOf(api.SymNil))
	case kind < 8:
		var elements []*tree
		for range a.Intn(4) {
			elements = append(elements, a.tree(depth-1))
		}
		return a.vectorOf(elements)
	}
	return a.atom()
}

// listOf makes the conses of a list; last may be a list itself.
func (a *author) listOf(parts []*tree, last *tree) *tree {
	w := last.word
	for _, x := range slices.Backward(parts) {
		w = a.cons(x.word, w)
	}
	if last.parts != nil {
		parts, last = append(slices.Clone(parts), last.parts...), last.last
	}
	x := &tree{word: w, parts: parts, last: last}
	if len(parts) == 2 && last.word == lispNil && parts[0].word.Kind == api.KindSym && prefixes()[parts[0].word.N] != "" {
		x.steps = append([]step{opened(prefixes()[parts[0].word.N])}, parts[1].steps...)
		x.steps = append(x.steps, closed(""))
		return x
	}
	x.steps = append([]step{opened("(")}, joined(parts)...)
	if last.word != lispNil {
		x.steps = append(append(x.steps, same(" . ")), last.steps...)
	}
	x.steps = append(x.steps, closed(")"))
	return x
}

func (a *author) vectorOf(elements []*tree) *tree {
	var words []api.Word
	for _, x := range elements {
		words = append(words, x.word)
	}
	steps := append([]step{opened("[")}, joined(elements)...)
	return &tree{word: a.vec(words...), steps: append(steps, closed("]"))}
}

// joined is the steps of trees, with blanks between.
func joined(l []*tree) []step {
	var steps []step
	for i, x := range l {
		if i > 0 {
			steps = append(steps, same(" "))
		}
		steps = append(steps, x.steps...)
	}
	return steps
}

func leaf(w api.Word, x step) *tree { return &tree{word: w, steps: []step{x}} }

func (a *author) atom() *tree {
	switch a.Intn(8) {
	case 0, 1:
		n := []int{0, a.Intn(10), -a.Intn(1000), a.Int() % api.MaxInt, -a.Int() % api.MaxInt, api.MinInt, api.MaxInt}[a.Intn(7)]
		return leaf(integer(n), same(strconv.Itoa(n)))
	case 2, 3:
		s := a.chars(4)
		return leaf(a.str(s), step{escaped: `"` + special(`["\\]`, s) + `"`, plain: s})
	case 4:
		return a.odd()
	case 5:
		return a.symbolOf([]int{api.SymNil, api.SymT, api.SymQuote, api.SymFunction, api.SymBack, api.SymComma, api.SymSplice}[a.Intn(7)])
	}
	return a.symbolOf(a.interned(a.name()).N)
}

func (a *author) symbolOf(n int) *tree {
	name, _ := a.t.Name(n)
	return leaf(symbol(n), step{escaped: escapedName(name), plain: name})
}

// odd makes a word that the reader does not read, or one that has no text.
func (a *author) odd() *tree {
	n := a.Intn(100)
	number := " " + strconv.Itoa(n) + ">"
	if a.faults && a.Intn(2) == 0 {
		return []*tree{
			leaf(dead(api.KindCons), step{err: api.ErrType}), leaf(dead(api.KindText), step{err: api.ErrType}), leaf(dead(api.KindVec), step{err: api.ErrType}),
			leaf(api.Word{Kind: 11 + n}, step{err: api.ErrType}), leaf(symbol(-1), step{err: api.ErrUnknown}), leaf(api.Word{Kind: api.KindPrim, N: api.MaxSyms}, step{err: api.ErrUnknown}),
		}[a.Intn(6)]
	}
	switch a.Intn(5) {
	case 0:
		return leaf(api.Word{Kind: api.KindMarker, N: n}, same("#<marker"+number))
	case 1:
		return leaf(api.Word{Kind: api.KindWindow, N: n}, same("#<window"+number))
	case 2:
		return leaf(api.Word{Kind: api.KindPrim, N: api.SymCond}, same("#<subr cond>"))
	}
	name := a.name()
	escaped := escapedName(name)
	if name == "" {
		escaped = ""
	}
	return leaf(a.fresh(name), step{escaped: "#:" + escaped, plain: "#:" + name})
}

func (a *author) name() string {
	if a.Intn(3) == 0 {
		return []string{"", ".", "1", "-1", "+12", "?", "#", "@", "quote", "function", "nil"}[a.Intn(11)]
	}
	return a.chars(3)
}

func (a *author) chars(most int) string {
	s := ""
	for range a.Intn(most + 1) {
		s += string([]rune("abé一\U0001f600?#@.+-012()[]\"'`,; \t\n\f\r\\\\\x00")[a.Intn(31)])
	}
	return s
}

// special returns s with a backslash before what matches a class of characters.
func special(class, s string) string { return regexp.MustCompile(class).ReplaceAllString(s, `\$0`) }

func escapedName(name string) string {
	if name == "" {
		return "##"
	}
	escaped := special("[\t\n\f\r ()\\[\\]\"'`,;\\\\]", name)
	if regexp.MustCompile(`^([?#@](?s:.*)|[+-]?[0-9]+|\.)$`).MatchString(name) {
		return `\` + escaped
	}
	return escaped
}

// wantOutcome checks that a word is shown by its steps.
func (a *author) wantOutcome(t *testing.T, x *tree, escape bool) {
	t.Helper()
	if s, e := outcome(x.steps, escape); e != api.OK {
		a.wantErrorOf(t, x.word, escape, e)
	} else {
		a.wantText(t, x.word, escape, s)
	}
}

func TestRandomWords(t *testing.T) {
	for seed := range 4000 {
		a := newAuthor(seed)
		a.faults = seed%2 == 0
		x := a.tree(a.Intn(6))
		for _, escape := range both {
			a.wantOutcome(t, x, escape)
		}
		if t.Failed() {
			t.Fatal(seed)
		}
	}
}

// TestRandomWordsAtTheLimits shows words within vectors, behind a string, so that they reach the limits of nesting and of the text.
func TestRandomWordsAtTheLimits(t *testing.T) {
	for seed := range 100 {
		a := newAuthor(seed)
		a.faults = seed%2 == 0
		x := a.tree(3)
		n := api.MaxNest - 1 - a.Intn(4)
		for _, escape := range both {
			s, _ := outcome(x.steps, escape)
			pad := a.pad(api.MaxChars-n-1-a.Intn(length(s)+4), escape)
			y := a.vectorOf([]*tree{leaf(pad, same(must(show.Text(a.h, a.t, pad, escape)))), x})
			for range n - 1 {
				y = a.vectorOf([]*tree{y})
			}
			a.wantOutcome(t, y, escape)
		}
		if t.Failed() {
			t.Fatal(seed)
		}
	}
}

// TestRandomAll compares the texts of several words with those of each.
func TestRandomAll(t *testing.T) {
	for seed := range 1000 {
		a := newAuthor(seed)
		a.faults = a.Intn(2) == 0
		for _, escape := range both {
			var words []api.Word
			var texts []string
			fault := api.OK
			for range a.Intn(5) {
				w := a.tree(3).word
				s, e := show.Text(a.h, a.t, w, escape)
				words, texts = append(words, w), append(texts, s)
				if fault == api.OK {
					fault = e
				}
			}
			if fault != api.OK {
				a.wantAllError(t, escape, fault, words...)
			} else {
				a.wantAll(t, escape, strings.Join(texts, " "), words...)
			}
		}
	}
}

// equal reports whether words are equal, but for the numbers of conses, strings and vectors.
func (d desk) equal(h *heap.Heap, v, w api.Word) bool {
	if v.Kind != w.Kind {
		return false
	}
	switch v.Kind {
	case api.KindText:
		return must(d.h.TextOf(v)) == must(h.TextOf(w))
	case api.KindVec:
		return slices.EqualFunc(must(d.h.VecOf(v)), must(h.VecOf(w)), func(x, y api.Word) bool { return d.equal(h, x, y) })
	case api.KindCons:
		return d.equal(h, must(d.h.Car(v)), must(h.Car(w))) && d.equal(h, must(d.h.Cdr(v)), must(h.Cdr(w)))
	}
	return v == w
}

// checkReadBack reads the escaped text of a word, and reports whether it could be read.
func (d desk) checkReadBack(t *testing.T, w api.Word) bool {
	t.Helper()
	s, e := show.Text(d.h, d.t, w, true)
	if e != api.OK {
		t.Fatal(w, e)
	}
	h := must(heap.New(api.MaxObjects))
	symbols := d.t.Many()
	x, end, f := read.Read(h, d.t, s, 0)
	if f.Err != api.OK {
		if !strings.Contains(s, "#") {
			t.Errorf("%s: %v", brief(s), f)
		}
		return false
	}
	if again, e := show.Text(h, d.t, x, true); e != api.OK || again != s || end != length(s) {
		t.Errorf("%s: %s, %v, end %d", brief(s), brief(again), e, end)
	}
	if !d.equal(h, w, x) || d.t.Many() != symbols {
		t.Errorf("%s: read as %v", brief(s), x)
	}
	return true
}

func TestReadBack(t *testing.T) {
	d := newDesk()
	for name := range symbolCases() {
		if w := d.interned(name); !d.checkReadBack(t, w) || !d.checkReadBack(t, d.list(w, w)) || !d.checkReadBack(t, d.dotted(w, w)) || !d.checkReadBack(t, d.vec(w)) {
			t.Errorf("%q is not read", name)
		}
		for n := range prefixes() {
			if !d.checkReadBack(t, d.list(symbol(n), d.interned(name))) {
				t.Errorf("%q is not read behind %s", name, prefixes()[n])
			}
		}
		if !d.checkReadBack(t, d.str(name)) {
			t.Errorf("the string %q is not read", name)
		}
	}
	for n := range api.FixedSyms {
		d.checkReadBack(t, symbol(n))
	}
	for _, n := range []int{0, 1, -1, api.MaxInt, api.MinInt} {
		d.checkReadBack(t, integer(n))
	}
	d.checkReadBack(t, d.interned(""))
	d.checkReadBack(t, d.interned(strings.Repeat("1", api.MaxName)))
	d.checkReadBack(t, d.interned(strings.Repeat("(", api.MaxName)))
	d.checkReadBack(t, d.pad(api.MaxChars, true))
	for _, x := range openings() {
		d.checkReadBack(t, x.nested(d, api.MaxNest, integer(1)))
	}
}

// TestReadBackRandomWords reads texts of random words, a part of them without #.
func TestReadBackRandomWords(t *testing.T) {
	many := 0
	for seed := range 4000 {
		a := newAuthor(seed)
		if a.checkReadBack(t, a.tree(a.Intn(6)).word) {
			many++
		}
		if t.Failed() {
			t.Fatal(seed)
		}
	}
	if many < 1000 {
		t.Error("only", many, "texts were read")
	}
}
