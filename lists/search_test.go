package lists_test

import (
	"slices"
	"testing"

	"copyist/api"
	"copyist/heap"
	"copyist/lists"
)

// search is one of Memq, Member, Assq, Assoc.
type search func(h *heap.Heap, x, w api.Word) (api.Word, api.Errno)

func TestMemqAndMember(t *testing.T) {
	for _, x := range []struct{ x, in, memq, member string }{
		{"a", "nil", "nil", "nil"},
		{"a", "(a)", "(a)", "(a)"},
		{"a", "(b a c a)", "(a c a)", "(a c a)"},
		{"c", "(b a c)", "(c)", "(c)"},
		{"d", "(b a c)", "nil", "nil"},
		{"a", "((a) [a] \"a\" . a)", "error 6", "error 6"},
		{"a", "(b a . c)", "(a . c)", "(a . c)"},
		{"a", "(b . a)", "error 6", "error 6"},
		{"a", "a", "error 6", "error 6"},
		{"nil", "(a)", "nil", "nil"},
		{"nil", "(a nil b)", "(nil b)", "(nil b)"},
		{"2", "(1 2 3)", "(2 3)", "(2 3)"},
		{"\"x\"", "(a \"x\" b)", "nil", "(\"x\" b)"},
		{"\"x\"", "(a \"X\" b)", "nil", "nil"},
		{"(1 [2])", "(1 (1 [3]) (1 [2]) (1 [2]))", "nil", "((1 [2]) (1 [2]))"},
		{"[]", "(nil [])", "nil", "([])"},
		{"(a)", "(a)", "nil", "nil"},
		{"(1)", "((2) . 5)", "error 6", "error 6"},
	} {
		d := newDesk()
		a, w := d.read(x.x), d.read(x.in)
		for _, y := range []struct {
			search
			want string
		}{{lists.Memq, x.memq}, {lists.Member, x.member}} {
			got, e := y.search(d.Heap, a, w)
			if y.want == "error 6" {
				wantErr(t, x.x+" in "+x.in, got, e, api.ErrType)
			} else {
				d.wantShown(t, x.x+" in "+x.in, got, e, y.want)
			}
		}
	}
}

func TestAssqAndAssoc(t *testing.T) {
	for _, x := range []struct{ x, in, assq, assoc string }{
		{"a", "nil", "nil", "nil"},
		{"a", "((a))", "(a)", "(a)"},
		{"a", "((b . 1) (a . 2) (a . 3))", "(a . 2)", "(a . 2)"},
		{"b", "((a . 1) b (b . 2))", "(b . 2)", "(b . 2)"},
		{"a", "(a [a] \"a\" nil 1 ((a)) (b a))", "nil", "nil"},
		{"a", "(a (a 1 2) . 5)", "(a 1 2)", "(a 1 2)"},
		{"a", "((b) . a)", "error 6", "error 6"},
		{"a", "((b) a . c)", "error 6", "error 6"},
		{"a", "((b) a . 3)", "error 6", "error 6"},
		{"a", "3", "error 6", "error 6"},
		{"nil", "(nil (nil . 1))", "(nil . 1)", "(nil . 1)"},
		{"nil", "(nil nil)", "nil", "nil"},
		{"1", "(1 (2 . 1) (1 . 2))", "(1 . 2)", "(1 . 2)"},
		{"\"x\"", "((\"X\" . 1) (\"x\" . 2))", "nil", "(\"x\" . 2)"},
		{"(1)", "(((1) . 7))", "nil", "((1) . 7)"},
		{"[1 (2)]", "([1 (2)] ([1 (3)]) ([1 (2)] a))", "nil", "([1 (2)] a)"},
	} {
		d := newDesk()
		a, w := d.read(x.x), d.read(x.in)
		for _, y := range []struct {
			search
			want string
		}{{lists.Assq, x.assq}, {lists.Assoc, x.assoc}} {
			got, e := y.search(d.Heap, a, w)
			if y.want == "error 6" {
				wantErr(t, x.x+" in "+x.in, got, e, api.ErrType)
			} else {
				d.wantShown(t, x.x+" in "+x.in, got, e, y.want)
			}
		}
	}
}

// TestSearchesReturnTheObject checks that the first cons or element itself is returned.
func TestSearchesReturnTheObject(t *testing.T) {
	d := newDesk()
	w := d.read(`(1 ("a" . 1) (2 . 1) "a" 2 ("a" . 1) (2 . 1) "a" 2)`)
	a := d.str("a")
	for i, x := range []struct {
		search
		x    api.Word
		want api.Word
	}{
		{lists.Memq, integer(2), d.nthCons(w, 4)},
		{lists.Memq, must(d.Car(d.nthCons(w, 7))), d.nthCons(w, 7)},
		{lists.Member, integer(2), d.nthCons(w, 4)},
		{lists.Member, a, d.nthCons(w, 3)},
		{lists.Assq, integer(2), must(d.Car(d.nthCons(w, 2)))},
		{lists.Assoc, integer(2), must(d.Car(d.nthCons(w, 2)))},
		{lists.Assoc, a, must(d.Car(d.nthCons(w, 1)))},
	} {
		got, e := x.search(d.Heap, x.x, w)
		if got != x.want || e != api.OK {
			t.Errorf("%d: %v, %v instead of %v", i, got, e, x.want)
		}
	}
}

// TestSearchesOfDeadWords has elements that are not live.
func TestSearchesOfDeadWords(t *testing.T) {
	d := newDesk()
	x := dead(api.KindCons)
	w := d.list(null, dead(api.KindText), x, d.cons(x, null))
	got, e := lists.Memq(d.Heap, x, w)
	wantWord(t, "Memq", got, e, d.nthCons(w, 2))
	got, e = lists.Member(d.Heap, x, w)
	wantWord(t, "Member", got, e, d.nthCons(w, 2))
	got, e = lists.Assq(d.Heap, x, w)
	wantWord(t, "Assq", got, e, must(d.Car(d.nthCons(w, 3))))
	got, e = lists.Assoc(d.Heap, x, w)
	wantWord(t, "Assoc", got, e, must(d.Car(d.nthCons(w, 3))))
	got, e = lists.Assq(d.Heap, null, w)
	wantWord(t, "Assq", got, e, null)
}

// TestSearchesInRings finds every element of a ring before its error.
func TestSearchesInRings(t *testing.T) {
	d := newDesk()
	w := d.ring(2, numbers(5)...)
	pairs := d.ring(2, d.cons(integer(0), null), d.cons(integer(1), null), d.cons(integer(2), null))
	for n := range 3 {
		got, e := lists.Memq(d.Heap, integer(n), w)
		wantWord(t, "Memq", got, e, d.nthCons(w, n))
		got, e = lists.Member(d.Heap, integer(n), w)
		wantWord(t, "Member", got, e, d.nthCons(w, n))
		want := must(d.Car(d.nthCons(pairs, n)))
		got, e = lists.Assq(d.Heap, integer(n), pairs)
		wantWord(t, "Assq", got, e, want)
		got, e = lists.Assoc(d.Heap, integer(n), pairs)
		wantWord(t, "Assoc", got, e, want)
	}
	for _, do := range []search{lists.Memq, lists.Member, lists.Assq, lists.Assoc} {
		for _, l := range []api.Word{w, pairs} {
			got, e := do(d.Heap, integer(7), l)
			wantErr(t, "a search in a ring", got, e, api.ErrLoop)
		}
	}
}

// equalCalls returns the calls that compare x with elements: what an element is made of a word, and what finds it.
func equalCalls() map[string]struct {
	search
	element func(d desk, w api.Word) api.Word
} {
	itself := func(d desk, w api.Word) api.Word { return w }
	return map[string]struct {
		search
		element func(d desk, w api.Word) api.Word
	}{
		"Member": {lists.Member, itself},
		"Assoc":  {lists.Assoc, func(d desk, w api.Word) api.Word { return d.cons(w, null) }},
		"Delete": {lists.Delete, itself},
		"Remove": {lists.Remove, itself},
	}
}

// TestErrorsOfElements checks that an error of Equal is returned for an element of any place, and that nothing is changed.
func TestErrorsOfElements(t *testing.T) {
	for name, c := range equalCalls() {
		d := newDeskOf(3000)
		deep := func() api.Word {
			return nested(api.MaxNest+1, integer(1), func(w api.Word) api.Word { return d.vec(w) })
		}
		x, y := deep(), c.element(d, deep())
		ring, other := d.ring(0, null), c.element(d, integer(5))
		for _, l := range [][]api.Word{{y}, {other, y}, {y, other}, {other, other, y, other}, {y, c.element(d, ring)}} {
			w := d.list(l...)
			had := d.objects()
			got, e := c.search(d.Heap, x, w)
			wantErr(t, name+" of a deep element", got, e, api.ErrDepth)
			d.wantSameObjects(t, name, had)
		}
		w := d.list(other, c.element(d, d.ring(0, null)), y)
		had := d.objects()
		got, e := c.search(d.Heap, ring, w)
		wantErr(t, name+" of a ring", got, e, api.ErrLoop)
		d.wantSameObjects(t, name, had)
	}
}

// TestChangesAfterErrors checks that Delete changes nothing if a later element has an error.
func TestChangesAfterErrors(t *testing.T) {
	d := newDeskOf(3000)
	deep := func() api.Word {
		return nested(api.MaxNest+1, integer(1), func(w api.Word) api.Word { return d.vec(w) })
	}
	x := deep()
	w := d.list(null, x, x, null, x, deep(), x)
	had := d.objects()
	got, e := lists.Delete(d.Heap, x, w)
	wantErr(t, "Delete", got, e, api.ErrDepth)
	d.wantSameObjects(t, "Delete", had)
	got, e = lists.Remove(d.Heap, x, w)
	wantErr(t, "Remove", got, e, api.ErrDepth)
	d.wantSameObjects(t, "Remove", had)
	got, e = lists.Member(d.Heap, x, w)
	wantWord(t, "Member finds it before", got, e, d.nthCons(w, 1))
}

// TestFuelOfElements checks that the comparisons of all elements are counted together.
func TestFuelOfElements(t *testing.T) {
	// The 199 vectors take 1001 comparisons each, an integer takes 1, and so does the last element, which is x itself.
	rest := api.MaxPairs - 199*1001
	for name, c := range equalCalls() {
		for _, k := range []struct {
			integers int
			want     api.Errno
		}{{0, api.OK}, {rest - 2, api.OK}, {rest - 1, api.OK}, {rest, api.ErrFuel}, {rest + 1, api.ErrFuel}, {rest + 1000, api.ErrFuel}} {
			d := newDesk()
			x, v, one := d.zeros(1000), c.element(d, d.zeros(1000, 999)), c.element(d, integer(1))
			l := slices.Concat(slices.Repeat([]api.Word{v}, 100), slices.Repeat([]api.Word{one}, k.integers), slices.Repeat([]api.Word{v}, 99))
			if name == "Assoc" { // these are skipped
				l = append(l, numbers(1000)...)
			}
			w, last := d.list(l...), c.element(d, x)
			found := d.list(last)
			ok(d.SetCdr(d.nthCons(w, len(l)-1), found))
			got, e := c.search(d.Heap, x, w)
			switch {
			case k.want != api.OK:
				wantErr(t, name, got, e, k.want)
			case name == "Member":
				wantWord(t, name, got, e, found)
			case name == "Assoc":
				wantWord(t, name, got, e, last)
			default:
				left, _ := lists.Slice(d.Heap, got)
				if !slices.Equal(left, l) || e != api.OK {
					t.Errorf("%s: %d elements, %v", name, len(left), e)
				}
			}
		}
	}
}

// TestEqualHasItsOwnCount checks that one call does not use up the comparisons of the next one.
func TestEqualHasItsOwnCount(t *testing.T) {
	d := newDesk()
	a, b := d.zeros(60000), d.zeros(60000)
	for range 5 {
		d.wantEqual(t, "vectors", a, b, true, api.OK)
		w, e := lists.Member(d.Heap, a, d.list(null, b))
		d.wantTail(t, w, e, b)
	}
}

// wantTail checks that w is a list of x.
func (d desk) wantTail(t *testing.T, w api.Word, e api.Errno, x api.Word) {
	t.Helper()
	if e != api.OK || must(d.Car(w)) != x || must(d.Cdr(w)) != null {
		t.Error(w, e)
	}
}

// TestLoopAndFuelOfElements has a ring whose elements take as many comparisons as there may be before its error, or one more.
func TestLoopAndFuelOfElements(t *testing.T) {
	for name, c := range equalCalls() {
		if name != "Member" && name != "Assoc" {
			continue
		}
		for _, x := range []struct {
			first int
			want  api.Errno
		}{{3391, api.ErrLoop}, {3392, api.ErrLoop}, {3393, api.ErrLoop}, {3394, api.ErrFuel}, {3395, api.ErrFuel}} {
			d := newDesk()
			// The first element takes first + 2 comparisons, the 65535 others 3 each: 200000 if first is 3393.
			w := d.ring(1, c.element(d, d.zeros(4000, x.first)), c.element(d, d.zeros(4000, 1)))
			got, e := c.search(d.Heap, d.zeros(4000), w)
			wantErr(t, name, got, e, x.want)
		}
	}
}
