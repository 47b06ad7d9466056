package lists_test

import (
	"slices"
	"testing"

	"copyist/api"
	"copyist/lists"
)

func TestDelqDeleteRemove(t *testing.T) {
	for _, x := range []struct{ x, in, delq, deleted string }{
		{"a", "nil", "nil", "nil"},
		{"a", "(a)", "nil", "nil"},
		{"a", "(b)", "(b)", "(b)"},
		{"a", "(a a a)", "nil", "nil"},
		{"a", "(a b)", "(b)", "(b)"},
		{"a", "(b a)", "(b)", "(b)"},
		{"a", "(b a c)", "(b c)", "(b c)"},
		{"1", "(1 2 1 3 1)", "(2 3)", "(2 3)"},
		{"1", "(1 1 2 1 1 1 3 4 1 1)", "(2 3 4)", "(2 3 4)"},
		{"nil", "(nil a nil (nil))", "(a (nil))", "(a (nil))"},
		{"a", "((a) [a] \"a\")", "((a) [a] \"a\")", "((a) [a] \"a\")"},
		{"(x)", "(1 (x) 2 (x))", "(1 (x) 2 (x))", "(1 2)"},
		{"\"a\"", "(\"a\" \"b\" \"a\")", "(\"a\" \"b\" \"a\")", "(\"b\")"},
		{"[1 (2)]", "([1 (2)] [1 (3)] [1 (2) 4])", "([1 (2)] [1 (3)] [1 (2) 4])", "([1 (3)] [1 (2) 4])"},
	} {
		d := newDesk()
		a, w := d.read(x.x), d.read(x.in)
		got, e := lists.Remove(d.Heap, a, w)
		d.wantShown(t, "Remove", got, e, x.deleted)
		if got != null && got == w {
			t.Error("Remove makes no new list")
		}
		d.wantShown(t, "the list after Remove", w, api.OK, x.in)
		got, e = lists.Delq(d.Heap, a, w)
		d.wantShown(t, "Delq", got, e, x.delq)
		w = d.read(x.in)
		got, e = lists.Delete(d.Heap, a, w)
		d.wantShown(t, "Delete", got, e, x.deleted)
	}
}

// TestUnlinkedConses checks that Delq and Delete keep the conses of a list and their cars, and change no others.
func TestUnlinkedConses(t *testing.T) {
	for bits := range 1 << 6 {
		for _, do := range []search{lists.Delq, lists.Delete} {
			d := newDeskOf(30)
			var l []api.Word
			for i := range 6 {
				l = append(l, integer(bits>>i&1))
			}
			w := d.list(l...)
			outer := d.cons(null, w)
			var want []api.Word
			for i := range l {
				if l[i] == integer(0) {
					want = append(want, d.nthCons(w, i))
				}
			}
			got, e := do(d.Heap, integer(1), w)
			var conses []api.Word
			for at := got; at != null; at = must(d.Cdr(at)) {
				conses = append(conses, at)
			}
			if e != api.OK || !slices.Equal(conses, want) {
				t.Errorf("%v: %v, %v instead of %v", l, conses, e, want)
			}
			for _, cons := range conses {
				if must(d.Car(cons)) != integer(0) {
					t.Error("another car")
				}
			}
			if must(d.Cdr(outer)) != w || d.Many() != 7 {
				t.Error("another cons has changed")
			}
		}
	}
}

// TestDeleteOfPartsOfTheList deletes words that contain the conses that are unlinked.
func TestDeleteOfPartsOfTheList(t *testing.T) {
	d := newDesk()
	w := d.read("((2) 1 (2) 2)")
	got, e := lists.Delete(d.Heap, d.nthCons(w, 3), w)
	d.wantShown(t, "Delete of a tail", got, e, "(1 2)")
	w = d.read("((1 x) x 1 x)")
	x := d.nthCons(w, 2) // (1 x), of which the first element is equal
	got, e = lists.Delete(d.Heap, x, w)
	d.wantShown(t, "Delete of a tail", got, e, "(x 1 x)")
	w = d.list(integer(1), null, integer(1))
	ok(d.SetCar(d.nthCons(w, 1), w)) // it contains itself
	got, e = lists.Delete(d.Heap, w, w)
	d.wantShown(t, "Delete of a list from itself", got, e, "(1 1)")
}
