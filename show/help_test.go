package show_test

import (
	"slices"
	"strconv"
	"strings"
	"testing"
	"unicode/utf8"

	"copyist/api"
	"copyist/heap"
	"copyist/names"
	"copyist/show"
)

// desk is a heap and a symbol table.
type desk struct {
	h *heap.Heap
	t *names.Table
}

func newDesk() desk {
	h, _ := heap.New(api.MaxObjects)
	return desk{h, names.New()}
}

func integer(n int) api.Word { return api.Word{Kind: api.KindInt, N: n} }

func symbol(n int) api.Word { return api.Word{Kind: api.KindSym, N: n} }

var lispNil = symbol(api.SymNil)

func (d desk) interned(name string) api.Word {
	n, e := d.t.Intern(name)
	return symbol(must(n, e))
}

func (d desk) fresh(name string) api.Word {
	n, e := d.t.Fresh(name)
	return symbol(must(n, e))
}

func (d desk) str(s string) api.Word { return must(d.h.Text(s)) }

func (d desk) vec(l ...api.Word) api.Word { return must(d.h.Vec(l)) }

func (d desk) cons(a, b api.Word) api.Word { return must(d.h.Cons(a, b)) }

func (d desk) list(l ...api.Word) api.Word { return d.dotted(lispNil, l...) }

// dotted returns a list that ends with last.
func (d desk) dotted(last api.Word, l ...api.Word) api.Word {
	for _, x := range slices.Backward(l) {
		last = d.cons(x, last)
	}
	return last
}

// dead returns a word of that kind that is not live.
func dead(kind int) api.Word { return api.Word{Kind: kind, N: api.MaxObjects - 1} }

func must[T any](x T, e api.Errno) T {
	if e != api.OK {
		panic(e)
	}
	return x
}

// pad returns a string whose text, of n characters, is all that a word is.
func (d desk) pad(n int, escape bool) api.Word {
	if escape {
		n -= 2
	}
	return d.str(strings.Repeat("é", n))
}

var both = []bool{true, false}

// wantTexts checks the escaped and the plain text of a word.
func (d desk) wantTexts(t *testing.T, w api.Word, escaped, plain string) {
	t.Helper()
	d.wantText(t, w, true, escaped)
	d.wantText(t, w, false, plain)
}

func (d desk) wantText(t *testing.T, w api.Word, escape bool, want string) {
	t.Helper()
	if s, e := show.Text(d.h, d.t, w, escape); s != want || e != api.OK {
		t.Errorf("Text(%v, %v): %s, %v instead of %s", w, escape, brief(s), e, brief(want))
	}
	if s, e := show.All(d.h, d.t, []api.Word{w}, escape); s != want || e != api.OK {
		t.Errorf("All(%v, %v): %s, %v instead of %s", w, escape, brief(s), e, brief(want))
	}
}

// wantError checks that a word has no text, escaped or plain.
func (d desk) wantError(t *testing.T, w api.Word, want api.Errno) {
	t.Helper()
	for _, escape := range both {
		d.wantErrorOf(t, w, escape, want)
	}
}

func (d desk) wantErrorOf(t *testing.T, w api.Word, escape bool, want api.Errno) {
	t.Helper()
	if s, e := show.Text(d.h, d.t, w, escape); s != "" || e != want {
		t.Errorf("Text(%v, %v): %s, %v instead of %v", w, escape, brief(s), e, want)
	}
	d.wantAllError(t, escape, want, w)
	d.wantAllError(t, escape, want, integer(1), w, api.Word{Kind: -1})
}

func (d desk) wantAll(t *testing.T, escape bool, want string, l ...api.Word) {
	t.Helper()
	if s, e := show.All(d.h, d.t, l, escape); s != want || e != api.OK {
		t.Errorf("All(%v, %v): %s, %v instead of %s", l, escape, brief(s), e, brief(want))
	}
}

func (d desk) wantAllError(t *testing.T, escape bool, want api.Errno, l ...api.Word) {
	t.Helper()
	if s, e := show.All(d.h, d.t, l, escape); s != "" || e != want {
		t.Errorf("All(%v, %v): %s, %v instead of %v", l, escape, brief(s), e, want)
	}
}

func brief(s string) string {
	if len(s) > 100 {
		return strconv.Quote(s[:100]) + ".. of length " + strconv.Itoa(length(s))
	}
	return strconv.Quote(s)
}

func length(s string) int { return utf8.RuneCountInString(s) }
