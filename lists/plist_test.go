package lists_test

import (
	"slices"
	"testing"

	"copyist/api"
	"copyist/lists"
)

func (d desk) wantGet(t *testing.T, what string, plist, key, want api.Word, found bool) {
	t.Helper()
	if x, is := lists.Get(d.Heap, plist, key); x != want || is != found {
		t.Errorf("%s: Get(%v, %v): %v, %v instead of %v, %v", what, plist, key, x, is, want, found)
	}
}

func TestGet(t *testing.T) {
	d := newDesk()
	for _, x := range []struct{ plist, key, want string }{
		{"(a 1 b 2)", "a", "1"}, {"(a 1 b 2)", "b", "2"}, {"(a 1 b 2 a 3)", "a", "1"}, {"(a b b c)", "b", "c"}, {"(1 2 2 1)", "2", "1"},
		{"(a nil)", "a", "nil"}, {"(nil a)", "nil", "a"}, {"(a 1 . b)", "a", "1"}, {"(b 2 a 1 . 5)", "a", "1"}, {"(b 1 a)", "b", "1"}, {"(a a)", "a", "a"},
		{"nil", "a", ""}, {"nil", "nil", ""}, {"(1 a)", "a", ""}, {"(a)", "a", ""}, {"(a . 1)", "a", ""}, {"(b 1 a)", "a", ""}, {"(b 1 a . 2)", "a", ""},
		{"(b a c 1)", "a", ""}, {"a", "a", ""}, {"[a 1]", "a", ""}, {`("a" 1)`, `"a"`, ""}, {"((a) 1)", "(a)", ""}, {"(b 1 . a)", "a", ""}, {"7", "7", ""},
	} {
		plist, key := d.read(x.plist), d.read(x.key)
		got, is := lists.Get(d.Heap, plist, key)
		if is != (x.want != "") || is && d.shown(got) != x.want || !is && got != none {
			t.Errorf("Get(%s, %s): %v, %v", x.plist, x.key, got, is)
		}
	}
	s := d.str("a")
	d.wantGet(t, "the same string", d.list(s, integer(1)), s, integer(1), true)
	d.wantGet(t, "a list that ends with a dead cons", d.dotted(dead(api.KindCons), s, s, s), integer(1), none, false)
	d.wantGet(t, "a dead list", dead(api.KindCons), s, none, false)
	d.wantGet(t, "a dead key", d.list(s, s, dead(api.KindText), s), dead(api.KindText), s, true)
}

// TestGetInRings has rings of an odd size, so that every element is the first one of a pair at some time.
func TestGetInRings(t *testing.T) {
	d := newDesk()
	ring := d.ring(0, numbers(3)...)
	for n := range 3 {
		d.wantGet(t, "a ring of three", ring, integer(n), integer((n+1)%3), true)
	}
	d.wantGet(t, "a ring of three", ring, integer(3), none, false)
	ring = d.ring(1, numbers(3)...)
	d.wantGet(t, "a ring of two", ring, integer(2), integer(1), true)
	d.wantGet(t, "a ring of two", ring, integer(1), none, false)
	one := d.ring(0, integer(1))
	d.wantGet(t, "a ring of one", one, integer(1), integer(1), true)
}

// TestGetLimit has a pair that ends with the last element that is examined, or one that is behind it.
func TestGetLimit(t *testing.T) {
	for _, x := range []struct {
		size, key int
		found     bool
	}{{api.MaxChars - 3, 1, true}, {api.MaxChars - 1, 1, false}, {api.MaxChars - 3, 3, false}, {api.MaxChars - 5, 3, true}, {api.MaxChars - 5, 5, false}, {api.MaxChars - 1, 0, true}, {api.MaxChars - 1, api.MaxChars - 2, true}} {
		d := newDesk()
		ring := d.ring(0, numbers(x.size)...)
		if x.found {
			d.wantGet(t, "a large ring", ring, integer(x.key), integer((x.key+1)%x.size), true)
		} else {
			d.wantGet(t, "a large ring", ring, integer(x.key), none, false)
		}
	}
	d := newDesk()
	l := d.list(numbers(api.MaxChars)...)
	d.wantGet(t, "a long list", l, integer(api.MaxChars-2), integer(api.MaxChars-1), true)
	d.wantGet(t, "a long list", l, integer(api.MaxChars-1), none, false)
}

func TestPut(t *testing.T) {
	d := newDesk()
	for _, x := range []struct{ plist, key, want string }{
		{"nil", "a", "(a 5)"}, {"(a 1 b 2)", "b", "(a 1 b 5)"}, {"(a 1 b 2)", "a", "(a 5 b 2)"}, {"(a 1 b 2)", "c", "(a 1 b 2 c 5)"}, {"(a 1 b)", "b", "(a 1 b b 5)"},
		{"(a 1 b)", "a", "(a 5 b)"}, {"(a)", "a", "(a a 5)"}, {"(a)", "b", "(a b 5)"}, {"(a 1 a 2)", "a", "(a 5 a 2)"}, {"(a b c d)", "b", "(a b c d b 5)"}, {"(a b b d)", "b", "(a b b 5)"},
		{"(nil nil)", "nil", "(nil 5)"}, {`("a" 1)`, `"a"`, `("a" 1 "a" 5)`}, {"(1 1)", "1", "(1 5)"}, {"((a) [1])", "c", "((a) [1] c 5)"},
	} {
		plist := d.read(x.plist)
		got, e := lists.Put(d.Heap, plist, d.read(x.key), integer(5))
		d.wantShown(t, "Put", got, e, x.want)
		d.wantShown(t, "the list", plist, api.OK, x.plist)
		for at := plist; at != null; at = must(d.Cdr(at)) {
			for cons := got; cons != null; cons = must(d.Cdr(cons)) {
				if at == cons {
					t.Error("the new list has a cons of the old one")
				}
			}
		}
	}
	s, v := d.str("a"), d.vec()
	got, e := lists.Put(d.Heap, d.list(s, integer(1)), s, v)
	if l := must(lists.Slice(d.Heap, got)); e != api.OK || !slices.Equal(l, []api.Word{s, v}) {
		t.Error(l, e)
	}
	got, e = lists.Put(d.Heap, null, dead(api.KindText), dead(api.KindVec))
	if l := must(lists.Slice(d.Heap, got)); e != api.OK || !slices.Equal(l, []api.Word{dead(api.KindText), dead(api.KindVec)}) {
		t.Error(l, e)
	}
}

// TestPutLong puts into the longest list for whose copy there is room.
func TestPutLong(t *testing.T) {
	d := newDesk()
	w := d.list(numbers(api.MaxObjects/2 - 1)...)
	had := d.Many()
	got, e := lists.Put(d.Heap, w, integer(-1), integer(5))
	if e != api.OK || d.Many() != had+api.MaxObjects/2+1 {
		t.Fatal(e, d.Many())
	}
	if x, is := lists.Get(d.Heap, got, integer(api.MaxObjects/2-2)); !is || x != integer(-1) {
		t.Error(x, is) // the list was of an odd length
	}
	got, e = lists.Put(d.Heap, w, integer(0), integer(5))
	wantErr(t, "Put", got, e, api.ErrFull)
}
