package lists_test

import (
	"testing"

	"copyist/api"
	"copyist/heap"
	"copyist/lists"
)

// result is what a call returns: a word, or an error; other results are shown as a word.
type result struct {
	w api.Word
	e api.Errno
}

func resultOf(w api.Word, e api.Errno) result { return result{w, e} }

func failed(e api.Errno) result { return result{e: e} }

// sliced returns the first element and the number of elements of a slice as a result.
func sliced(l []api.Word, e api.Errno) result {
	if len(l) == 0 {
		return result{e: e}
	}
	return result{api.Word{Kind: len(l), N: l[0].N}, e}
}

func counted(n int, e api.Errno) result { return result{integer(n), e} }

func decided(is bool, e api.Errno) result {
	if is {
		return result{integer(1), e}
	}
	return result{e: e}
}

// call is a call with a list.
type call struct {
	name string
	do   func(h *heap.Heap, w api.Word) result
}

// eager returns the calls that return the error of a list before anything else, with some other arguments.
func eager() []call {
	one := integer(1)
	return []call{
		{"Slice", func(h *heap.Heap, w api.Word) result { return sliced(lists.Slice(h, w)) }},
		{"Length", func(h *heap.Heap, w api.Word) result { return counted(lists.Length(h, w)) }},
		{"Append", func(h *heap.Heap, w api.Word) result { return resultOf(lists.Append(h, w, one)) }},
		{"Reverse", func(h *heap.Heap, w api.Word) result { return resultOf(lists.Reverse(h, w)) }},
		{"Copy", func(h *heap.Heap, w api.Word) result { return resultOf(lists.Copy(h, w)) }},
		{"Delq", func(h *heap.Heap, w api.Word) result { return resultOf(lists.Delq(h, one, w)) }},
		{"Delete", func(h *heap.Heap, w api.Word) result { return resultOf(lists.Delete(h, one, w)) }},
		{"Remove", func(h *heap.Heap, w api.Word) result { return resultOf(lists.Remove(h, one, w)) }},
		{"Sorted", func(h *heap.Heap, w api.Word) result { return resultOf(lists.Sorted(h, w)) }},
		{"Put", func(h *heap.Heap, w api.Word) result { return resultOf(lists.Put(h, w, one, one)) }},
	}
}

// searches returns the calls that search a list for x.
func searches(x api.Word) []call {
	return []call{
		{"Memq", func(h *heap.Heap, w api.Word) result { return resultOf(lists.Memq(h, x, w)) }},
		{"Member", func(h *heap.Heap, w api.Word) result { return resultOf(lists.Member(h, x, w)) }},
		{"Assq", func(h *heap.Heap, w api.Word) result { return resultOf(lists.Assq(h, x, w)) }},
		{"Assoc", func(h *heap.Heap, w api.Word) result { return resultOf(lists.Assoc(h, x, w)) }},
	}
}

// others returns the calls that take no proper list; only those that have an Errno.
func others() []call {
	one := integer(1)
	return []call{
		{"Equal", func(h *heap.Heap, w api.Word) result { return decided(lists.Equal(h, w, w)) }},
		{"Make", func(h *heap.Heap, w api.Word) result { return resultOf(lists.Make(h, []api.Word{w})) }},
		{"Make of too many", func(h *heap.Heap, w api.Word) result {
			return resultOf(lists.Make(h, make([]api.Word, api.MaxChars+1)))
		}},
		{"Make of none", func(h *heap.Heap, w api.Word) result { return resultOf(lists.Make(h, nil)) }},
		{"Tail", func(h *heap.Heap, w api.Word) result { return resultOf(lists.Tail(h, w, 0)) }},
		{"Tail out of range", func(h *heap.Heap, w api.Word) result { return resultOf(lists.Tail(h, w, -1)) }},
		{"Nth", func(h *heap.Heap, w api.Word) result { return resultOf(lists.Nth(h, w, 0)) }},
		{"Nth out of range", func(h *heap.Heap, w api.Word) result { return resultOf(lists.Nth(h, w, -1)) }},
		{"Less", func(h *heap.Heap, w api.Word) result { return decided(lists.Less(h, one, integer(2))) }},
		{"Less of others", func(h *heap.Heap, w api.Word) result { return decided(lists.Less(h, w, w)) }},
		{"Hash", func(h *heap.Heap, w api.Word) result { return counted(lists.Hash(h, w)) }},
	}
}

func TestInvalidHeaps(t *testing.T) {
	words := []api.Word{null, none, symbol(api.SymT), dead(api.KindCons), dead(api.KindText), dead(api.KindVec), {Kind: api.KindCons}, {Kind: -1}}
	for _, h := range []*heap.Heap{nil, new(heap.Heap)} {
		for _, w := range words {
			calls := append(append(eager(), others()...), searches(w)...)
			for _, c := range calls {
				if r := c.do(h, w); r != failed(api.ErrNil) {
					t.Errorf("%s(%v): %v", c.name, w, r)
				}
			}
			if x, is := lists.Get(h, w, w); is || x != none {
				t.Errorf("Get(%v): %v, %v", w, x, is)
			}
		}
	}
}

// odd is a list that is not proper, and its error.
type odd struct {
	name string
	w    api.Word
	e    api.Errno
}

func (d desk) oddLists() []odd {
	two, three, pair := integer(2), integer(3), d.cons(integer(2), integer(2))
	code := must(d.Code(api.Code{}))
	return []odd{
		{"integer", two, api.ErrType},
		{"t", symbol(api.SymT), api.ErrType},
		{"another symbol 0", api.Word{Kind: api.KindPrim, N: api.SymNil}, api.ErrType},
		{"dead cons", dead(api.KindCons), api.ErrType},
		{"negative cons", api.Word{Kind: api.KindCons, N: -1}, api.ErrType},
		{"string", d.str("a"), api.ErrType},
		{"vector", d.vec(two), api.ErrType},
		{"code", code, api.ErrType},
		{"number of a string as a cons", api.Word{Kind: api.KindCons, N: code.N}, api.ErrType},
		{"unknown kind", api.Word{Kind: 11}, api.ErrType},
		{"pair", pair, api.ErrType},
		{"dotted list", d.dotted(two, two, three, two), api.ErrType},
		{"list that ends with a string", d.dotted(d.str(""), two), api.ErrType},
		{"list that ends with a vector", d.dotted(d.vec(), two, two), api.ErrType},
		{"list that ends with a dead cons", d.dotted(dead(api.KindCons), two, three), api.ErrType},
		{"list that ends with t", d.dotted(symbol(api.SymT), two), api.ErrType},
		{"ring of one", d.ring(0, two), api.ErrLoop},
		{"ring of two", d.ring(0, two, three), api.ErrLoop},
		{"ring behind others", d.ring(2, two, three, two, three, three), api.ErrLoop},
	}
}

// TestOddLists checks the error of each kind of list that is not proper, in each call, and that nothing changes.
func TestOddLists(t *testing.T) {
	d := newDeskOf(300)
	for _, x := range d.oddLists() {
		for _, c := range append(eager(), searches(integer(1))...) {
			had := d.objects()
			if r := c.do(d.Heap, x.w); r != failed(x.e) {
				t.Errorf("%s(%s): %v instead of %v", c.name, x.name, r, x.e)
			}
			d.wantSameObjects(t, c.name, had)
		}
	}
}

// TestOddListsOfPairs does the same where the elements are conses.
func TestOddListsOfPairs(t *testing.T) {
	d := newDeskOf(300)
	pair := d.cons(integer(2), integer(1))
	for _, x := range []odd{
		{"dotted", d.dotted(integer(1), pair, pair), api.ErrType},
		{"ring", d.ring(1, pair, pair), api.ErrLoop},
	} {
		for _, c := range searches(integer(1)) {
			if r := c.do(d.Heap, x.w); r != failed(x.e) {
				t.Errorf("%s(%s): %v instead of %v", c.name, x.name, r, x.e)
			}
		}
	}
}

// TestErrorOfListFirst checks that the error of a list comes before ErrFull, ErrType of elements, and errors of Equal.
func TestErrorOfListFirst(t *testing.T) {
	d := newDesk()
	deep := func() api.Word {
		w := integer(1)
		for range api.MaxNest + 1 {
			w = d.vec(w)
		}
		return w
	}
	x, y := deep(), deep()
	dotted, ring := d.dotted(integer(3), y, integer(1), d.str("")), d.ring(0, y, integer(1), d.str(""))
	d.fill(0)
	for _, c := range []call{
		{"Delete", func(h *heap.Heap, w api.Word) result { return resultOf(lists.Delete(h, x, w)) }},
		{"Remove", func(h *heap.Heap, w api.Word) result { return resultOf(lists.Remove(h, x, w)) }},
		{"Append", func(h *heap.Heap, w api.Word) result { return resultOf(lists.Append(h, w, x)) }},
		{"Reverse", func(h *heap.Heap, w api.Word) result { return resultOf(lists.Reverse(h, w)) }},
		{"Copy", func(h *heap.Heap, w api.Word) result { return resultOf(lists.Copy(h, w)) }},
		{"Sorted", func(h *heap.Heap, w api.Word) result { return resultOf(lists.Sorted(h, w)) }},
		{"Put", func(h *heap.Heap, w api.Word) result { return resultOf(lists.Put(h, w, x, x)) }},
	} {
		if r := c.do(d.Heap, dotted); r != failed(api.ErrType) {
			t.Errorf("%s of a dotted list: %v", c.name, r)
		}
		if r := c.do(d.Heap, ring); r != failed(api.ErrLoop) {
			t.Errorf("%s of a ring: %v", c.name, r)
		}
	}
	if r := resultOf(lists.Member(d.Heap, x, dotted)); r != failed(api.ErrDepth) {
		t.Errorf("Member meets the element first: %v", r)
	}
}

// TestFull checks that each call creates as many conses as its result has, and nothing if there are not so many.
func TestFull(t *testing.T) {
	for _, x := range []struct {
		call
		l    []api.Word
		need int
	}{
		{call{"Make", func(h *heap.Heap, w api.Word) result { return resultOf(lists.Make(h, numbers(3))) }}, nil, 3},
		{call{"Make of none", func(h *heap.Heap, w api.Word) result { return resultOf(lists.Make(h, nil)) }}, nil, 0},
		{call{"Append", func(h *heap.Heap, w api.Word) result { return resultOf(lists.Append(h, w, w)) }}, numbers(4), 4},
		{call{"Append to nil", func(h *heap.Heap, w api.Word) result { return resultOf(lists.Append(h, w, integer(1))) }}, nil, 0},
		{call{"Reverse", func(h *heap.Heap, w api.Word) result { return resultOf(lists.Reverse(h, w)) }}, numbers(3), 3},
		{call{"Reverse of nil", func(h *heap.Heap, w api.Word) result { return resultOf(lists.Reverse(h, w)) }}, nil, 0},
		{call{"Copy", func(h *heap.Heap, w api.Word) result { return resultOf(lists.Copy(h, w)) }}, numbers(3), 3},
		{call{"Copy of one", func(h *heap.Heap, w api.Word) result { return resultOf(lists.Copy(h, w)) }}, numbers(1), 1},
		{call{"Remove of one", func(h *heap.Heap, w api.Word) result { return resultOf(lists.Remove(h, integer(1), w)) }}, numbers(4), 3},
		{call{"Remove of none", func(h *heap.Heap, w api.Word) result { return resultOf(lists.Remove(h, integer(7), w)) }}, numbers(4), 4},
		{call{"Remove of all", func(h *heap.Heap, w api.Word) result { return resultOf(lists.Remove(h, integer(0), w)) }}, numbers(1), 0},
		{call{"Sorted", func(h *heap.Heap, w api.Word) result { return resultOf(lists.Sorted(h, w)) }}, numbers(4), 4},
		{call{"Sorted of one", func(h *heap.Heap, w api.Word) result { return resultOf(lists.Sorted(h, w)) }}, numbers(1), 1},
		{call{"Put of a key", func(h *heap.Heap, w api.Word) result { return resultOf(lists.Put(h, w, integer(2), null)) }}, numbers(5), 5},
		{call{"Put of a new key", func(h *heap.Heap, w api.Word) result { return resultOf(lists.Put(h, w, integer(4), null)) }}, numbers(5), 7},
		{call{"Put to nil", func(h *heap.Heap, w api.Word) result { return resultOf(lists.Put(h, w, null, null)) }}, nil, 2},
	} {
		for free := range x.need {
			d := newDeskOf(30)
			w := d.list(x.l...)
			d.fill(free)
			had := d.objects()
			if r := x.do(d.Heap, w); r != failed(api.ErrFull) {
				t.Errorf("%s with %d free: %v", x.name, free, r)
			}
			d.wantSameObjects(t, x.name, had)
		}
		d := newDeskOf(30)
		w := d.list(x.l...)
		d.fill(x.need)
		if r := x.do(d.Heap, w); r.e != api.OK || d.Many() != d.Limit() {
			t.Errorf("%s with %d free: %v, %d still free", x.name, x.need, r, d.Limit()-d.Many())
		}
	}
}

// TestNothingCreated checks which calls create nothing, even in a full heap.
func TestNothingCreated(t *testing.T) {
	d := newDeskOf(60)
	w := d.list(append(numbers(5), d.cons(integer(1), integer(2)), d.vec(d.str("a")))...)
	d.fill(0)
	had := d.objects()
	var keep []call
	for _, c := range append(others(), searches(integer(1))...) {
		if c.name != "Make" && c.name != "Make of too many" {
			keep = append(keep, c)
		}
	}
	keep = append(keep, eager()[0], eager()[1],
		call{"Delq", func(h *heap.Heap, w api.Word) result { return resultOf(lists.Delq(h, integer(9), w)) }},
		call{"Delete", func(h *heap.Heap, w api.Word) result { return resultOf(lists.Delete(h, integer(9), w)) }})
	for _, c := range keep {
		if r := c.do(d.Heap, w); r.e == api.ErrFull {
			t.Errorf("%s: %v", c.name, r)
		}
		d.wantSameObjects(t, c.name, had)
	}
	if _, is := lists.Get(d.Heap, w, integer(2)); !is {
		t.Error("Get")
	}
	d.wantSameObjects(t, "Get", had)
}
