package lists_test

import (
	"strings"
	"testing"

	"copyist/api"
	"copyist/lists"
)

// kinds is all kinds of words, and some that are none.
var kinds = []int{api.KindInt, api.KindSym, api.KindCons, api.KindText, api.KindVec, api.KindPrim, api.KindCode, api.KindBuffer, api.KindMarker, api.KindOver, api.KindWindow, 11, -1}

func TestEql(t *testing.T) {
	for _, k := range kinds {
		for _, n := range []int{0, 1, -1, api.MaxInt} {
			a := api.Word{Kind: k, N: n}
			if !lists.Eql(a, a) || lists.Eql(a, api.Word{Kind: k, N: n + 1}) || lists.Eql(a, api.Word{Kind: k + 1, N: n}) || lists.Eql(api.Word{Kind: k - 1, N: n}, a) {
				t.Error(a)
			}
		}
	}
	d := newDesk()
	if lists.Eql(d.str("a"), d.str("a")) || lists.Eql(d.list(null), d.list(null)) {
		t.Error("Eql compares contents")
	}
}

func TestEqualOfSameWords(t *testing.T) {
	d := newDesk()
	ring := d.ring(0, null)
	ok(d.SetCar(ring, ring))
	for _, w := range []api.Word{ring, d.str("a"), d.vec(ring), must(d.Code(api.Code{}))} {
		d.wantEqual(t, "the same object", w, w, true, api.OK)
	}
	for _, k := range kinds {
		for _, n := range []int{-1, 0, 1, api.MaxObjects} {
			a := api.Word{Kind: k, N: n}
			d.wantEqual(t, "the same word", a, a, true, api.OK)
			b := api.Word{Kind: k, N: n + 100}
			d.wantEqual(t, "another number", a, b, false, api.OK)
			for _, other := range kinds {
				if other != k {
					d.wantEqual(t, "another kind", a, api.Word{Kind: other, N: n}, false, api.OK)
				}
			}
		}
	}
}

func TestEqualOfRead(t *testing.T) {
	groups := [][]string{
		{"1"}, {"2"}, {"-1"}, {"a"}, {"A"}, {"nil", "()"}, {`"a"`, `"\x61\"`}, {`"A"`}, {`""`}, {`"é"`}, {`"e\x301\"`, `"\x65\\x301\"`}, {`"aé"`}, {`"ab"`},
		{"[]"}, {"[1]"}, {"[1 2]"}, {"[2 1]"}, {`["a"]`}, {"[[1] 2]"}, {"[(1) 2]"}, {"[nil]"}, {"[[]]"},
		{"(1)", "(1 . nil)"}, {"(1 2)", "(1 . (2))"}, {"(1 . 2)"}, {"(2 1)"}, {"(1 2 3)"}, {"((1) 2)"}, {"((1 2))"}, {"(1 (2))"}, {"(nil)"}, {"(nil nil)"}, {"(nil . 1)"}, {"((nil))"},
		{`(1 "a" [2 (x . y)])`}, {`(1 "a" [2 (x . z)])`}, {`(1 "b" [2 (x . y)])`}, {`(1 "a" [2 (x . y) 3])`}, {`(1 "a" [2 (x y)])`}, {"'a", "(quote a)"}, {"(1 2 . [3])"}, {"(1 2 . [4])"}, {`(1 . "a")`}, {`(1 . "b")`},
	}
	d := newDesk()
	for i, g := range groups {
		for j, h := range groups {
			for _, x := range g {
				for _, y := range h {
					d.wantEqual(t, x+" and "+y, d.read(x), d.read(y), i == j, api.OK)
				}
			}
		}
	}
}

func TestEqualOfDeadObjects(t *testing.T) {
	d := newDesk()
	live := []api.Word{d.list(null), d.list(null), d.str(""), d.str(""), d.vec(), d.vec()}
	d.wantEqual(t, "live", live[0], live[1], true, api.OK)
	d.wantEqual(t, "live", live[2], live[3], true, api.OK)
	d.wantEqual(t, "live", live[4], live[5], true, api.OK)
	for _, w := range live {
		d.wantEqual(t, "dead", w, dead(w.Kind), false, api.OK)
		d.wantEqual(t, "dead", dead(w.Kind), api.Word{Kind: w.Kind, N: -1}, false, api.OK)
		for _, k := range kinds[2:5] { // words that have the number of an object of another kind
			if k != w.Kind {
				d.wantEqual(t, "another kind", w, api.Word{Kind: k, N: w.N}, false, api.OK)
				d.wantEqual(t, "another kind", api.Word{Kind: k, N: w.N}, dead(k), false, api.OK)
			}
		}
	}
	code := must(d.Code(api.Code{Bytes: []byte{1}}))
	d.wantEqual(t, "code", code, must(d.Code(api.Code{Bytes: []byte{1}})), false, api.OK)
}

func TestEqualOfLongStrings(t *testing.T) {
	d := newDesk()
	s := strings.Repeat("é", api.MaxChars-1)
	a := d.str(s + "a")
	d.wantEqual(t, "long strings", a, d.str(s+"a"), true, api.OK)
	d.wantEqual(t, "long strings", a, d.str(s+"b"), false, api.OK)
	d.wantEqual(t, "long strings", a, d.str(s), false, api.OK)
}

// TestEqualOfVectors has vectors of all sizes up to the largest, which differ in one element or in their size.
func TestEqualOfVectors(t *testing.T) {
	for _, n := range []int{1, 2, 3, 7, 100, 1000, api.MaxChars - 1, api.MaxChars} {
		d := newDesk()
		a := d.zeros(n)
		d.wantEqual(t, "vectors", a, d.zeros(n), true, api.OK)
		d.wantEqual(t, "vectors", a, d.zeros(n-1), false, api.OK)
		for _, i := range []int{0, n / 2, n - 1} {
			d.wantEqual(t, "vectors", a, d.zeros(n, i), false, api.OK)
		}
	}
}

// nested returns a word within so many levels, which make makes.
func nested(levels int, w api.Word, level func(w api.Word) api.Word) api.Word {
	for range levels {
		w = level(w)
	}
	return w
}

// levels returns the ways in which a word is nested one level deeper.
func (d desk) levels() map[string]func(w api.Word) api.Word {
	n := 0
	return map[string]func(w api.Word) api.Word{
		"car":             func(w api.Word) api.Word { return d.list(w) },
		"car of a pair":   func(w api.Word) api.Word { return d.cons(w, integer(1)) },
		"second element":  func(w api.Word) api.Word { return d.list(null, w) },
		"third element":   func(w api.Word) api.Word { return d.dotted(integer(1), null, null, w) },
		"vector":          func(w api.Word) api.Word { return d.vec(w) },
		"vector's second": func(w api.Word) api.Word { return d.vec(null, w, null) },
		"vector as a cdr": func(w api.Word) api.Word { return d.cons(null, d.vec(w)) },
		"both": func(w api.Word) api.Word {
			n++
			if n%3 == 0 {
				return d.vec(w)
			}
			return d.list(w)
		},
	}
}

func TestEqualDepth(t *testing.T) {
	for name := range newDesk().levels() {
		d := newDesk()
		make := func(levels int, w api.Word) api.Word { return nested(levels, w, d.levels()[name]) }
		one, two := integer(1), integer(2)
		for _, depth := range []int{api.MaxNest - 1, api.MaxNest} {
			a := make(depth, one)
			d.wantEqual(t, name, a, make(depth, one), true, api.OK)
			d.wantEqual(t, name, a, make(depth, two), false, api.OK)
		}
		a, b := make(api.MaxNest+1, one), make(api.MaxNest+1, one)
		d.wantEqual(t, name, a, b, false, api.ErrDepth)
		d.wantEqual(t, name, a, make(api.MaxNest+1, two), false, api.ErrDepth)
		d.wantEqual(t, name, make(api.MaxNest+7, one), make(api.MaxNest+4, one), false, api.ErrDepth)
		d.wantEqual(t, name, a, a, true, api.OK)
		d.wantEqual(t, name, make(1000, a), make(1000, a), false, api.ErrDepth)
		d.wantEqual(t, name, make(api.MaxNest, a), make(api.MaxNest, a), true, api.OK)
		// What is met first decides.
		d.wantEqual(t, name, d.cons(one, a), d.cons(two, b), false, api.OK)
		d.wantEqual(t, name, d.cons(a, one), d.cons(b, two), false, api.ErrDepth)
		d.wantEqual(t, name, d.list(one, two, a), d.list(one, one, b), false, api.OK)
		d.wantEqual(t, name, d.vec(one, two, a), d.vec(one, one, b), false, api.OK)
		d.wantEqual(t, name, d.vec(one, a, two), d.vec(one, b, one), false, api.ErrDepth)
		d.wantEqual(t, name, d.vec(a), d.vec(b, one), false, api.OK)
		d.wantEqual(t, name, d.vec(a, one), d.vec(b), false, api.OK)
		d.wantEqual(t, name, d.list(a), d.vec(b), false, api.OK)
	}
}

// TestCdrsAreNotNested compares a list that is longer than the nesting may be deep.
func TestCdrsAreNotNested(t *testing.T) {
	d := newDesk()
	a, b := d.dotted(d.vec(integer(1)), numbers(30000)...), d.dotted(d.vec(integer(1)), numbers(30000)...)
	d.wantEqual(t, "long lists", a, b, true, api.OK)
	d.wantEqual(t, "long lists", a, d.cons(integer(0), b), false, api.OK)
	deep := func() api.Word { return nested(api.MaxNest, a, func(w api.Word) api.Word { return d.list(w, null) }) }
	d.wantEqual(t, "deep lists", deep(), deep(), true, api.OK)
	d.wantEqual(t, "their tail is in another vector", nested(api.MaxNest, a, func(w api.Word) api.Word { return d.vec(w) }), nested(api.MaxNest, b, func(w api.Word) api.Word { return d.vec(w) }), false, api.ErrDepth)
}

func TestEqualOfRings(t *testing.T) {
	d := newDesk()
	one := integer(1)
	d.wantEqual(t, "rings of one", d.ring(0, one), d.ring(0, one), false, api.ErrLoop)
	d.wantEqual(t, "rings of other sizes", d.ring(0, one, one), d.ring(0, one, one, one), false, api.ErrLoop)
	d.wantEqual(t, "rings behind others", d.ring(3, one, one, one, one), d.ring(1, one, one, one), false, api.ErrLoop)
	d.wantEqual(t, "rings with other elements", d.ring(0, one, one), d.ring(0, one, integer(2)), false, api.OK)
	d.wantEqual(t, "a ring and a list", d.ring(0, one), d.list(one, one, one), false, api.OK)
	ring := d.ring(0, one)
	d.wantEqual(t, "the same ring", d.cons(one, ring), d.cons(one, ring), true, api.OK)
	d.wantEqual(t, "the ring itself", ring, d.cons(one, ring), true, api.OK)
	d.wantEqual(t, "rings within vectors", d.vec(d.ring(0, one)), d.vec(d.ring(0, one)), false, api.ErrLoop)
	p, q := d.ring(0, null), d.ring(0, null)
	ok(d.SetCar(p, p))
	ok(d.SetCar(q, q))
	d.wantEqual(t, "rings of cars", p, q, false, api.ErrDepth)
	v, w := d.vec(null), d.vec(null)
	ok(d.SetAt(v, 0, v))
	ok(d.SetAt(w, 0, w))
	d.wantEqual(t, "vectors of themselves", v, w, false, api.ErrDepth)
}

// TestEveryListCountsItsOwnCdrs has two lists that together have more conses than one may have.
func TestEveryListCountsItsOwnCdrs(t *testing.T) {
	d := newDesk()
	ring, long := d.ring(0, null), d.list(make([]api.Word, 40000)...)
	ok(d.SetCar(ring, integer(0)))
	one, two := d.vec(integer(1)), d.vec(integer(2))
	ok(d.SetCar(d.nthCons(long, 39999), one)) // it differs from the ring there
	d.wantEqual(t, "two lists", d.list(long, ring), d.list(ring, long), false, api.OK)
	ok(d.SetCdr(d.nthCons(long, 39999), two))
	d.wantEqual(t, "one list", long, ring, false, api.OK)
	a, b := d.ring(0, integer(0)), d.ring(0, integer(0))
	for range 3 { // lists within lists, each before the last one
		a, b = d.list(integer(1), a), d.list(integer(1), b)
	}
	d.wantEqual(t, "lists in lists", a, b, false, api.ErrLoop)
}

// TestEqualFuel has comparisons of exactly as many words as there may be, and one more.
func TestEqualFuel(t *testing.T) {
	// 1 comparison of the vectors, 4 of their elements, and those of the elements of these.
	for _, x := range []struct {
		last int
		want api.Errno
	}{{4994, api.OK}, {4995, api.OK}, {4996, api.ErrFuel}, {5000, api.ErrFuel}} {
		d := newDesk()
		make := func(ones ...int) api.Word {
			return d.vec(d.zeros(65000), d.zeros(65000), d.zeros(65000), d.zeros(x.last, ones...))
		}
		a := make()
		d.wantEqual(t, "vectors", a, make(), x.want == api.OK, x.want)
		d.wantEqual(t, "vectors that differ in the last comparison", a, make(x.last-1), false, x.want)
	}
	// A list of 5000 elements takes 10000 comparisons of cars and cdrs, so that these are 199999 and last.
	for last, want := range []api.Errno{api.OK, api.OK, api.ErrFuel} {
		d := newDesk()
		make := func() api.Word {
			return d.vec(d.list(numbers(5000)...), d.zeros(65000), d.zeros(65000), d.zeros(59993), d.zeros(last))
		}
		d.wantEqual(t, "a list and vectors", make(), make(), want == api.OK, want)
	}
}

// TestOrderOfEqualErrors makes the comparisons of an element at the end of a vector run out of fuel at each of its steps.
func TestOrderOfEqualErrors(t *testing.T) {
	// before makes as many comparisons as wanted before that of the last element.
	before := func(d desk, many int, last api.Word) api.Word {
		vectors := []api.Word{}
		for many > 1+60001 {
			vectors = append(vectors, d.zeros(60000))
			many -= 60001
		}
		return d.vec(append(vectors, append(make([]api.Word, many-1), last)...)...)
	}
	deep := func(d desk) api.Word {
		return nested(api.MaxNest, integer(1), func(w api.Word) api.Word { return d.vec(w) })
	}
	// At the last level there is the 1 + many + MaxNest - 1 + 1st comparison.
	for _, x := range []struct {
		many int
		want api.Errno
	}{{api.MaxPairs - api.MaxNest - 1, api.ErrDepth}, {api.MaxPairs - api.MaxNest, api.ErrDepth}, {api.MaxPairs - api.MaxNest + 1, api.ErrFuel}} {
		d := newDesk()
		d.wantEqual(t, "depth and fuel", before(d, x.many, deep(d)), before(d, x.many, deep(d)), false, x.want)
	}
	// Before the comparison of the cdr number n there are many + 2n.
	last := api.MaxPairs - 2*(api.MaxChars+1)
	for _, x := range []struct {
		many int
		want api.Errno
	}{{last - 2, api.ErrLoop}, {last - 1, api.ErrLoop}, {last, api.ErrFuel}, {last + 1, api.ErrFuel}, {last + 2, api.ErrFuel}} {
		d := newDesk()
		d.wantEqual(t, "loop and fuel", before(d, x.many, d.ring(0, integer(1))), before(d, x.many, d.ring(0, integer(1))), false, x.want)
	}
}
