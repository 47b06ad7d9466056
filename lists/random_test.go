package lists_test

import (
	"math/rand"
	"slices"
	"strconv"
	"testing"

	"copyist/api"
	"copyist/lists"
)

// author makes random words.
type author struct {
	*rand.Rand
	desk
	words []api.Word
}

func newAuthor(seed, limit int) *author {
	return &author{Rand: rand.New(rand.NewSource(int64(seed))), desk: newDeskOf(limit)}
}

// atom makes a word that contains nothing.
func (a *author) atom() api.Word {
	switch a.Intn(12) {
	case 0, 1, 2, 3, 4:
		return integer(a.Intn(4) - 1)
	case 5, 6:
		return null
	case 7:
		return api.Word{Kind: a.Intn(13) - 1, N: a.Intn(20) - 1}
	case 8:
		return dead([]int{api.KindCons, api.KindText, api.KindVec}[a.Intn(3)])
	}
	return a.kept(a.Text(string([]rune("aé\U0001f600")[:a.Intn(4)])))
}

func (a *author) kept(w api.Word, e api.Errno) api.Word {
	if e != api.OK {
		return integer(0)
	}
	a.words = append(a.words, w)
	return w
}

// word makes a word, or takes one that was made before.
func (a *author) word() api.Word {
	if len(a.words) > 0 && a.Intn(3) > 0 {
		return a.words[a.Intn(len(a.words))]
	}
	return a.atom()
}

func (a *author) some(most int, one func() api.Word) []api.Word {
	var l []api.Word
	for range a.Intn(most + 1) {
		l = append(l, one())
	}
	return l
}

// list makes the conses of a list, which often is a proper one.
func (a *author) list() {
	end := null
	if a.Intn(3) == 0 {
		end = a.word()
	}
	one := []func() api.Word{a.word, a.atom, func() api.Word { return integer(a.Intn(3)) }, a.textOnly}[a.Intn(4)]
	for _, x := range a.some(5, one) {
		end = a.kept(a.Cons(x, end))
	}
}

func (a *author) textOnly() api.Word { return a.kept(a.Text("ab"[:a.Intn(3)])) }

// create makes a graph of objects, some of which may contain themselves.
func (a *author) create() {
	for range 1 + a.Intn(8) {
		if a.Intn(3) > 0 {
			a.list()
		} else {
			a.kept(a.Vec(a.some(3, a.word)))
		}
	}
	for a.Intn(4) == 0 {
		w, x := a.word(), a.word()
		switch a.Intn(3) { // an error does not matter
		case 0:
			a.SetCar(w, x)
		case 1:
			a.SetCdr(w, x)
		case 2:
			a.SetAt(w, 0, x)
		}
	}
}

// bools returns a word for a bool.
func bools(is bool) api.Word {
	if is {
		return symbol(api.SymT)
	}
	return none
}

// modelled is a call on a heap and on a model.
type modelled struct {
	name      string
	got, want func() result
}

// modelledCalls returns the calls with random words.
func (a *author) modelledCalls() (model, []modelled) {
	h, x, y, w := a.Heap, a.word(), a.word(), a.word()
	n, l := a.Intn(9)-1, a.some(3, a.word)
	m := a.model()
	return m, []modelled{
		{"Make", func() result { return resultOf(lists.Make(h, l)) }, func() result { return resultOf(m.make(l, null)) }},
		{"Tail", func() result { return resultOf(lists.Tail(h, w, n)) }, func() result { return resultOf(m.tail(w, n)) }},
		{"Nth", func() result { return resultOf(lists.Nth(h, w, n)) }, func() result { return resultOf(m.nth(w, n)) }},
		{"Append", func() result { return resultOf(lists.Append(h, w, x)) }, func() result { l, e := m.elements(w); return resultOf(m.makeOf(l, e, x)) }},
		{"Reverse", func() result { return resultOf(lists.Reverse(h, w)) }, func() result { return resultOf(m.reverse(w)) }},
		{"Copy", func() result { return resultOf(lists.Copy(h, w)) }, func() result { l, e := m.elements(w); return resultOf(m.makeOf(l, e, null)) }},
		{"Memq", func() result { return resultOf(lists.Memq(h, x, w)) }, func() result { return resultOf(m.member(x, w, false)) }},
		{"Member", func() result { return resultOf(lists.Member(h, x, w)) }, func() result { return resultOf(m.member(x, w, true)) }},
		{"Assq", func() result { return resultOf(lists.Assq(h, x, w)) }, func() result { return resultOf(m.assoc(x, w, false)) }},
		{"Assoc", func() result { return resultOf(lists.Assoc(h, x, w)) }, func() result { return resultOf(m.assoc(x, w, true)) }},
		{"Delq", func() result { return resultOf(lists.Delq(h, x, w)) }, func() result { return resultOf(m.delete(x, w, false)) }},
		{"Delete", func() result { return resultOf(lists.Delete(h, x, w)) }, func() result { return resultOf(m.delete(x, w, true)) }},
		{"Remove", func() result { return resultOf(lists.Remove(h, x, w)) }, func() result { return resultOf(m.remove(x, w)) }},
		{"Sorted", func() result { return resultOf(lists.Sorted(h, w)) }, func() result { return resultOf(m.sorted(w)) }},
		{"Put", func() result { return resultOf(lists.Put(h, w, x, y)) }, func() result { return resultOf(m.put(w, x, y)) }},
		{"Length", func() result { return counted(lists.Length(h, w)) }, func() result { l, e := m.elements(w); return counted(len(l), e) }},
		{"Equal", func() result { is, e := lists.Equal(h, x, w); return result{bools(is), e} }, func() result { is, e := (&pairs{m, 0}).equal(x, w, 0); return result{bools(is), e} }},
		{"Less", func() result { is, e := lists.Less(h, x, w); return result{bools(is), e} }, func() result { order, e := m.compare(x, w); return result{bools(order < 0), e} }},
		{"Get", func() result { x, is := lists.Get(h, w, y); return result{x, api.Errno(bools(is).N)} }, func() result { x, is := m.get(w, y); return result{x, api.Errno(bools(is).N)} }},
		{"Hash", func() result { return counted(lists.Hash(h, w)) }, func() result { v := visitor{m, 0}; return counted(int(v.hash(w, 0)), api.OK) }},
	}
}

// TestModel runs the same calls on heaps and on models of them.
func TestModel(t *testing.T) {
	results := map[string]int{}
	for seed := range 6000 {
		a := newAuthor(seed, 3+rand.New(rand.NewSource(int64(seed))).Intn(60))
		a.create()
		m, calls := a.modelledCalls()
		for range 3 {
			c := calls[a.Intn(len(calls))]
			got, want := c.got(), c.want()
			if got != want {
				t.Errorf("seed %d, %s: %v instead of %v", seed, c.name, got, want)
			}
			a.wantSameObjects(t, c.name, m.objects)
			results[c.name+" "+strconv.Itoa(int(got.e))]++
		}
		if t.Failed() {
			t.Fatal(seed)
		}
	}
	for _, x := range []struct {
		name   string
		errors []api.Errno
	}{
		{"Make", []api.Errno{0, 7}}, {"Tail", []api.Errno{0, 3, 6}}, {"Nth", []api.Errno{0, 3, 6}}, {"Append", []api.Errno{0, 6, 7, 16}}, {"Reverse", []api.Errno{0, 6, 7, 16}}, {"Copy", []api.Errno{0, 6, 7, 16}},
		{"Memq", []api.Errno{0, 6, 16}}, {"Member", []api.Errno{0, 6, 16}}, {"Assq", []api.Errno{0, 6, 16}}, {"Assoc", []api.Errno{0, 6, 16}}, {"Delq", []api.Errno{0, 6, 16}}, {"Delete", []api.Errno{0, 6, 16}}, {"Remove", []api.Errno{0, 6, 7, 16}},
		{"Sorted", []api.Errno{0, 6, 7, 16}}, {"Put", []api.Errno{0, 6, 7, 16}}, {"Length", []api.Errno{0, 6, 16}}, {"Equal", []api.Errno{0}}, {"Less", []api.Errno{0, 6}}, {"Get", []api.Errno{0, 1}}, {"Hash", []api.Errno{0}},
	} {
		for _, e := range x.errors {
			if results[x.name+" "+strconv.Itoa(int(e))] == 0 {
				t.Errorf("%s never returned error %d", x.name, e)
			}
		}
	}
}

// tree makes a word without rings, of a few kinds of words, so that two of them often are equal.
func (a *author) tree(depth int) api.Word {
	kind := a.Intn(6)
	if depth == 0 {
		kind = 5
	}
	switch {
	case kind < 3:
		w := null
		if a.Intn(4) == 0 {
			w = a.tree(depth - 1)
		}
		for range 1 + a.Intn(2) {
			w = a.cons(a.tree(depth-1), w)
		}
		return w
	case kind < 4:
		return a.vec(a.some(2, func() api.Word { return a.tree(depth - 1) })...)
	case a.Intn(3) == 0:
		return a.textOnly()
	}
	return integer(a.Intn(2))
}

// copyOf makes the objects of a word again.
func (a *author) copyOf(w api.Word) api.Word {
	switch w.Kind {
	case api.KindCons:
		return a.cons(a.copyOf(must(a.Car(w))), a.copyOf(must(a.Cdr(w))))
	case api.KindVec:
		var l []api.Word
		for _, x := range must(a.VecOf(w)) {
			l = append(l, a.copyOf(x))
		}
		return a.vec(l...)
	case api.KindText:
		return a.str(must(a.TextOf(w)))
	}
	return w
}

// TestEqualWordsHaveTheSameHash checks P7.7 with words that are shown with the same text if and only if they are equal.
func TestEqualWordsHaveTheSameHash(t *testing.T) {
	same, others := 0, 0
	for seed := range 6000 {
		a := newAuthor(seed, 2000)
		depth := a.Intn(4)
		x := a.tree(depth)
		for _, y := range []api.Word{a.tree(depth), a.copyOf(x)} {
			equal, e := lists.Equal(a.Heap, x, y)
			if e != api.OK || equal != (a.shown(x) == a.shown(y)) {
				t.Fatal(seed, a.shown(x), a.shown(y), equal, e)
			}
			if !equal {
				others++
				continue
			}
			same++
			if must(lists.Hash(a.Heap, x)) != must(lists.Hash(a.Heap, y)) {
				t.Fatal(seed, a.shown(x), a.shown(y), "other hashes")
			}
		}
	}
	if same < 6000 || others < 3000 {
		t.Error(same, others)
	}
}

// TestSortingKeepsElements checks P7.7 for sorting and for Slice.
func TestSortingKeepsElements(t *testing.T) {
	for seed := range 500 {
		a := newAuthor(seed, 2000)
		one := []func() api.Word{a.textOnly, func() api.Word { return integer(a.Intn(20)) }}[a.Intn(2)]
		l := a.some(40, one)
		w := must(lists.Make(a.Heap, l))
		if !slices.Equal(must(lists.Slice(a.Heap, w)), l) {
			t.Fatal(seed, "Slice")
		}
		sorted := must(lists.Slice(a.Heap, must(lists.Sorted(a.Heap, w))))
		for i := range len(sorted) - 1 {
			if must(lists.Less(a.Heap, sorted[i+1], sorted[i])) {
				t.Fatal(seed, "not in order")
			}
		}
		byNumber := func(x, y api.Word) int { return x.N - y.N }
		slices.SortFunc(sorted, byNumber)
		slices.SortFunc(l, byNumber)
		if !slices.Equal(sorted, l) {
			t.Fatal(seed, "other elements")
		}
	}
}

// TestEqualIsThatOfTheReader compares what the same text is read as twice.
func TestEqualIsThatOfTheReader(t *testing.T) {
	for seed := range 500 {
		a := newAuthor(seed, 2000)
		x := a.tree(4)
		a.wantEqual(t, "read again", x, a.read(a.shown(x)), true, api.OK)
	}
}
