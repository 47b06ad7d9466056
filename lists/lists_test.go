package lists_test

import (
	"slices"
	"testing"

	"copyist/api"
	"copyist/lists"
)

func TestMake(t *testing.T) {
	d := newDesk()
	w, e := lists.Make(d.Heap, nil)
	wantWord(t, "Make of nil", w, e, null)
	w, e = lists.Make(d.Heap, []api.Word{})
	wantWord(t, "Make of none", w, e, null)
	w, e = lists.Make(d.Heap, []api.Word{d.read("a")})
	d.wantShown(t, "Make of one", w, e, "(a)")
	w, e = lists.Make(d.Heap, []api.Word{d.read("(a)"), null, integer(1), d.str("x")})
	d.wantShown(t, "Make", w, e, `((a) nil 1 "x")`)
	dead := dead(api.KindVec)
	w, e = lists.Make(d.Heap, []api.Word{dead})
	if e != api.OK || must(d.Car(w)) != dead {
		t.Error("Make of a dead word", w, e)
	}
}

// TestMakeOrder checks that conses are created from the last one to the first, under the smallest free numbers.
func TestMakeOrder(t *testing.T) {
	d := newDeskOf(20)
	for range 8 {
		d.vec()
	}
	d.Collect([]api.Word{{Kind: api.KindVec, N: 0}, {Kind: api.KindVec, N: 2}, {Kind: api.KindVec, N: 5}})
	w := must(lists.Make(d.Heap, numbers(6)))
	for i, n := range []int{8, 7, 6, 4, 3, 1} {
		if cons := (api.Word{Kind: api.KindCons, N: n}); w != cons || must(d.Car(w)) != integer(i) {
			t.Errorf("cons %d is %v", i, w)
		}
		w = must(d.Cdr(w))
	}
	if w != null {
		t.Error(w)
	}
}

// TestOrderOfNewConses checks that the other calls create conses in that order, too.
func TestOrderOfNewConses(t *testing.T) {
	for i, do := range []func(d desk, w api.Word) (api.Word, api.Errno){
		func(d desk, w api.Word) (api.Word, api.Errno) { return lists.Append(d.Heap, w, integer(7)) },
		func(d desk, w api.Word) (api.Word, api.Errno) { return lists.Reverse(d.Heap, w) },
		func(d desk, w api.Word) (api.Word, api.Errno) { return lists.Copy(d.Heap, w) },
		func(d desk, w api.Word) (api.Word, api.Errno) { return lists.Remove(d.Heap, integer(9), w) },
		func(d desk, w api.Word) (api.Word, api.Errno) { return lists.Sorted(d.Heap, w) },
		func(d desk, w api.Word) (api.Word, api.Errno) { return lists.Put(d.Heap, w, integer(0), null) },
	} {
		d := newDeskOf(20)
		had := numbers(4)
		w, e := do(d, d.list(had...))
		for n := range 4 {
			if cons := (api.Word{Kind: api.KindCons, N: 7 - n}); e != api.OK || w != cons {
				t.Errorf("%d: cons %d is %v, %v", i, n, w, e)
			}
			w, e = d.Cdr(w)
		}
	}
}

func TestMakeLimits(t *testing.T) {
	d := newDesk()
	l := numbers(api.MaxChars + 1)
	w, e := lists.Make(d.Heap, l)
	wantErr(t, "Make of too many", w, e, api.ErrLong)
	w, e = lists.Make(d.Heap, l[1:])
	if e != api.OK || d.Many() != api.MaxChars {
		t.Fatal(w, e, d.Many())
	}
	got, e := lists.Slice(d.Heap, w)
	if e != api.OK || !slices.Equal(got, l[1:]) {
		t.Error(len(got), e)
	}
	w, e = lists.Make(d.Heap, l)
	wantErr(t, "Make of too many in a full heap", w, e, api.ErrLong)
	w, e = lists.Make(d.Heap, l[1:])
	wantErr(t, "Make of many in a full heap", w, e, api.ErrFull)
}

func TestMakeKeepsArgument(t *testing.T) {
	d := newDesk()
	l := numbers(3)
	w := must(lists.Make(d.Heap, l))
	if !slices.Equal(l, numbers(3)) {
		t.Error("changed", l)
	}
	l[1] = null
	d.wantShown(t, "Make", w, api.OK, "(0 1 2)")
}

func TestSliceAndLength(t *testing.T) {
	d := newDesk()
	for _, l := range [][]api.Word{nil, {null}, {integer(1), d.str("a"), dead(api.KindCons)}, numbers(300)} {
		w := d.list(l...)
		got, e := lists.Slice(d.Heap, w)
		if e != api.OK || !slices.Equal(got, l) {
			t.Errorf("Slice of %d: %v, %v", len(l), got, e)
		}
		if n, e := lists.Length(d.Heap, w); n != len(l) || e != api.OK {
			t.Errorf("Length of %d: %d, %v", len(l), n, e)
		}
		if len(got) > 0 {
			got[0] = integer(99)
			if must(d.Car(w)) != l[0] {
				t.Error("the slice is that of the list")
			}
		}
	}
}

// TestLongLists has as many conses in one list as a heap can have.
func TestLongLists(t *testing.T) {
	d := newDesk()
	l := numbers(api.MaxChars)
	w := d.list(l...)
	if n, e := lists.Length(d.Heap, w); n != api.MaxChars || e != api.OK {
		t.Error("Length:", n, e)
	}
	if got, e := lists.Slice(d.Heap, w); !slices.Equal(got, l) || e != api.OK {
		t.Error("Slice:", len(got), e)
	}
	last := d.nthCons(w, api.MaxChars-1)
	x, e := lists.Memq(d.Heap, integer(api.MaxChars-1), w)
	wantWord(t, "Memq", x, e, last)
	x, e = lists.Member(d.Heap, integer(api.MaxChars-1), w)
	wantWord(t, "Member", x, e, last)
	x, e = lists.Assoc(d.Heap, integer(1), w)
	wantWord(t, "Assoc", x, e, null)
	x, e = lists.Tail(d.Heap, w, api.MaxChars-1)
	wantWord(t, "Tail", x, e, last)
	x, e = lists.Tail(d.Heap, w, api.MaxChars)
	wantWord(t, "Tail at the end", x, e, null)
	x, e = lists.Delq(d.Heap, integer(1), w)
	if n, _ := lists.Length(d.Heap, x); x != w || e != api.OK || n != api.MaxChars-1 {
		t.Error("Delq:", x, e, n)
	}
	d.Collect([]api.Word{w}) // the cons that was unlinked
	w = d.cons(null, w)
	ok(d.SetCdr(last, integer(5)))
	n, e := lists.Length(d.Heap, w)
	wantErr(t, "Length of a dotted list", n, e, api.ErrType)
	ok(d.SetCdr(last, w))
	n, e = lists.Length(d.Heap, w)
	wantErr(t, "Length of a ring", n, e, api.ErrLoop)
}

func TestTail(t *testing.T) {
	d := newDesk()
	w := d.list(numbers(3)...)
	for n, want := range []string{"(0 1 2)", "(1 2)", "(2)", "nil", "nil", "nil"} {
		x, e := lists.Tail(d.Heap, w, n)
		d.wantShown(t, "Tail", x, e, want)
	}
	x, e := lists.Tail(d.Heap, w, 1)
	wantWord(t, "Tail", x, e, d.nthCons(w, 1))
	x, e = lists.Tail(d.Heap, w, api.MaxChars)
	wantWord(t, "Tail", x, e, null)
	for _, n := range []int{-1, api.MaxChars + 1, 1<<63 - 1, -1 << 63} {
		for _, y := range []api.Word{w, null, integer(1), dead(api.KindCons)} {
			x, e = lists.Tail(d.Heap, y, n)
			wantErr(t, "Tail out of range", x, e, api.ErrRange)
			x, e = lists.Nth(d.Heap, y, n)
			wantErr(t, "Nth out of range", x, e, api.ErrRange)
		}
	}
	for _, y := range []api.Word{integer(1), dead(api.KindCons), d.str("a"), symbol(api.SymT), {Kind: 77}} {
		x, e = lists.Tail(d.Heap, y, 0)
		wantWord(t, "Tail of another word", x, e, y)
		for n := 1; n < 4; n++ {
			x, e = lists.Tail(d.Heap, y, n)
			wantErr(t, "Tail of another word", x, e, api.ErrType)
		}
		dotted := d.dotted(y, null, null)
		x, e = lists.Tail(d.Heap, dotted, 2)
		wantWord(t, "Tail of a dotted list", x, e, y)
		x, e = lists.Tail(d.Heap, dotted, 3)
		wantErr(t, "Tail of a dotted list", x, e, api.ErrType)
	}
}

func TestTailOfRing(t *testing.T) {
	d := newDesk()
	w := d.ring(1, numbers(4)...)
	for n := range 20 {
		at := n
		for at > 3 {
			at -= 3
		}
		x, e := lists.Tail(d.Heap, w, n)
		wantWord(t, "Tail", x, e, d.nthCons(w, at))
		x, e = lists.Nth(d.Heap, w, n)
		wantWord(t, "Nth", x, e, integer(at))
	}
	x, e := lists.Nth(d.Heap, w, api.MaxChars)
	wantWord(t, "Nth", x, e, integer(1+(api.MaxChars-1)%3))
}

func TestNth(t *testing.T) {
	d := newDesk()
	w := d.list(d.str("a"), null, integer(5))
	for n, want := range []string{`"a"`, "nil", "5", "nil", "nil"} {
		x, e := lists.Nth(d.Heap, w, n)
		d.wantShown(t, "Nth", x, e, want)
	}
	x, e := lists.Nth(d.Heap, null, 0)
	wantWord(t, "Nth of nil", x, e, null)
	dotted := d.dotted(integer(3), integer(1), integer(2))
	x, e = lists.Nth(d.Heap, dotted, 1)
	wantWord(t, "Nth of a dotted list", x, e, integer(2))
	for n := 2; n < 5; n++ {
		x, e = lists.Nth(d.Heap, dotted, n)
		wantErr(t, "Nth of a dotted list", x, e, api.ErrType)
	}
	for _, y := range []api.Word{integer(1), dead(api.KindCons), d.str("a"), d.vec(null), symbol(api.SymT)} {
		x, e = lists.Nth(d.Heap, y, 0)
		wantErr(t, "Nth of another word", x, e, api.ErrType)
	}
}

func TestAppend(t *testing.T) {
	d := newDesk()
	a, b := d.read("(1 2)"), d.read("(3)")
	w, e := lists.Append(d.Heap, a, b)
	d.wantShown(t, "Append", w, e, "(1 2 3)")
	if d.nthCons(w, 2) != b || w == a || d.nthCons(w, 1) == d.nthCons(a, 1) {
		t.Error("the conses of Append")
	}
	d.wantShown(t, "the first list", a, api.OK, "(1 2)")
	w, e = lists.Append(d.Heap, a, a)
	d.wantShown(t, "Append of the same", w, e, "(1 2 1 2)")
	w, e = lists.Append(d.Heap, a, null)
	d.wantShown(t, "Append of nil", w, e, "(1 2)")
	w, e = lists.Append(d.Heap, a, integer(9))
	d.wantShown(t, "Append of an integer", w, e, "(1 2 . 9)")
	for _, b := range []api.Word{b, null, integer(4), dead(api.KindCons), {Kind: -3, N: 4}} {
		w, e = lists.Append(d.Heap, null, b)
		wantWord(t, "Append to nil", w, e, b)
	}
	ring := d.ring(0, integer(1))
	w, e = lists.Append(d.Heap, a, ring)
	if e != api.OK || d.nthCons(w, 2) != ring {
		t.Error("Append of a ring", w, e)
	}
}

func TestReverseAndCopy(t *testing.T) {
	d := newDesk()
	for _, x := range []struct{ in, reversed string }{
		{"nil", "nil"}, {"(a)", "(a)"}, {"(a b)", "(b a)"}, {"(1 (2 3) nil \"x\" [4 5])", "([4 5] \"x\" nil (2 3) 1)"},
	} {
		w := d.read(x.in)
		r, e := lists.Reverse(d.Heap, w)
		d.wantShown(t, "Reverse", r, e, x.reversed)
		c, e := lists.Copy(d.Heap, w)
		d.wantShown(t, "Copy", c, e, x.in)
		d.wantShown(t, "the list", w, api.OK, x.in)
		if w != null && (c == w || r == w) {
			t.Error("not a new list")
		}
	}
	w := d.read("((1) (2))")
	c := must(lists.Copy(d.Heap, w))
	if must(d.Car(c)) != must(d.Car(w)) {
		t.Error("Copy copies elements")
	}
	ok(d.SetCar(c, null))
	ok(d.SetCdr(c, null))
	d.wantShown(t, "the list", w, api.OK, "((1) (2))")
}
