package lists_test

import (
	"slices"
	"testing"

	"copyist/api"
	"copyist/heap"
	"copyist/lists"
	"copyist/names"
	"copyist/read"
	"copyist/show"
)

// desk is a heap, and a symbol table to read and show words with.
type desk struct {
	*heap.Heap
	t *names.Table
}

func newDesk() desk { return newDeskOf(api.MaxObjects) }

func newDeskOf(limit int) desk { return desk{must(heap.New(limit)), names.New()} }

var (
	none = api.Word{}
	null = symbol(api.SymNil)
)

func integer(n int) api.Word { return api.Word{Kind: api.KindInt, N: n} }

func symbol(n int) api.Word { return api.Word{Kind: api.KindSym, N: n} }

// dead returns a word of that kind that is not live.
func dead(kind int) api.Word { return api.Word{Kind: kind, N: api.MaxObjects} }

func must[T any](x T, e api.Errno) T {
	if e != api.OK {
		panic(e)
	}
	return x
}

func ok(e api.Errno) {
	if e != api.OK {
		panic(e)
	}
}

func (d desk) cons(a, b api.Word) api.Word { return must(d.Cons(a, b)) }

func (d desk) str(s string) api.Word { return must(d.Text(s)) }

func (d desk) vec(l ...api.Word) api.Word { return must(d.Vec(l)) }

func (d desk) list(l ...api.Word) api.Word { return d.dotted(null, l...) }

// dotted returns a list that ends with last.
func (d desk) dotted(last api.Word, l ...api.Word) api.Word {
	for _, x := range slices.Backward(l) {
		last = d.cons(x, last)
	}
	return last
}

// ring returns the first cons of a list whose last cdr is its cons with index back.
func (d desk) ring(back int, l ...api.Word) api.Word {
	w := d.list(l...)
	ok(d.SetCdr(d.nthCons(w, len(l)-1), d.nthCons(w, back)))
	return w
}

func (d desk) nthCons(w api.Word, n int) api.Word {
	for range n {
		w = must(d.Cdr(w))
	}
	return w
}

// zeros returns a vector of n zeros, of which those at the given places are ones.
func (d desk) zeros(n int, ones ...int) api.Word {
	l := make([]api.Word, n)
	for _, i := range ones {
		l[i] = integer(1)
	}
	return d.vec(l...)
}

// numbers returns the integers from 0 to n-1.
func numbers(n int) []api.Word {
	var l []api.Word
	for i := range n {
		l = append(l, integer(i))
	}
	return l
}

// read returns what a text is read as.
func (d desk) read(s string) api.Word {
	w, _, f := read.Read(d.Heap, d.t, s, 0)
	return must(w, f.Err)
}

// shown returns the text of a word.
func (d desk) shown(w api.Word) string {
	s, e := show.Text(d.Heap, d.t, w, true)
	if e != api.OK {
		return e.Error()
	}
	return s
}

// wantShown checks the text of the result of a call.
func (d desk) wantShown(t *testing.T, what string, w api.Word, e api.Errno, want string) {
	t.Helper()
	if s := d.shown(w); s != want || e != api.OK {
		t.Errorf("%s: %s, %v instead of %s", what, s, e, want)
	}
}

func wantWord(t *testing.T, what string, w api.Word, e api.Errno, want api.Word) {
	t.Helper()
	if w != want || e != api.OK {
		t.Errorf("%s: %v, %v instead of %v", what, w, e, want)
	}
}

// wantErr checks that a call returns that error and a zero value.
func wantErr[T comparable](t *testing.T, what string, x T, e, want api.Errno) {
	t.Helper()
	var zero T
	if x != zero || e != want {
		t.Errorf("%s: %v, %v instead of error %v", what, x, e, want)
	}
}

// wantEqual checks that Equal returns that error or else same, in both directions.
func (d desk) wantEqual(t *testing.T, what string, a, b api.Word, same bool, want api.Errno) {
	t.Helper()
	if is, e := lists.Equal(d.Heap, a, b); is != same || e != want {
		t.Errorf("%s: Equal(%v, %v): %v, %v instead of %v, %v", what, a, b, is, e, same, want)
	}
	if is, e := lists.Equal(d.Heap, b, a); is != same || e != want {
		t.Errorf("%s: Equal(%v, %v), the other way round: %v, %v instead of %v, %v", what, b, a, is, e, same, want)
	}
}

// object is what a heap has under a number.
type object struct {
	kind  int
	words []api.Word
	text  string
}

// objects returns all objects of a heap, by number; code is not told apart.
func (d desk) objects() map[int]object {
	all := map[int]object{}
	for n := range d.Limit() {
		if w := (api.Word{Kind: api.KindCons, N: n}); d.Live(w) {
			all[n] = object{kind: w.Kind, words: []api.Word{must(d.Car(w)), must(d.Cdr(w))}}
		}
		if w := (api.Word{Kind: api.KindText, N: n}); d.Live(w) {
			all[n] = object{kind: w.Kind, text: must(d.TextOf(w))}
		}
		if w := (api.Word{Kind: api.KindVec, N: n}); d.Live(w) {
			all[n] = object{kind: w.Kind, words: must(d.VecOf(w))}
		}
		if w := (api.Word{Kind: api.KindCode, N: n}); d.Live(w) {
			all[n] = object{kind: w.Kind}
		}
	}
	return all
}

func sameObject(a, b object) bool {
	return a.kind == b.kind && a.text == b.text && slices.Equal(a.words, b.words)
}

// wantSameObjects checks that a heap has the objects that it had.
func (d desk) wantSameObjects(t *testing.T, what string, had map[int]object) {
	t.Helper()
	has := d.objects()
	for n := range d.Limit() {
		if !sameObject(has[n], had[n]) {
			t.Errorf("%s: object %d is %v instead of %v", what, n, has[n], had[n])
		}
	}
}

// fill leaves so many numbers of a heap free.
func (d desk) fill(free int) {
	for d.Limit()-d.Many() > free {
		d.cons(null, null)
	}
}
