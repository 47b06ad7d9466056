package read_test

import (
	"slices"
	"strconv"
	"strings"
	"testing"
	"unicode/utf8"

	"copyist/api"
	"copyist/heap"
	"copyist/names"
	"copyist/read"
)

var none = api.Word{}

// desk is a heap and a symbol table.
type desk struct {
	h *heap.Heap
	t *names.Table
}

func newDesk(objects int) desk {
	h, _ := heap.New(objects)
	return desk{h, names.New()}
}

// invalid is the heaps and tables of which at least one is not valid.
func invalid() map[string]desk {
	d := newDesk(10)
	return map[string]desk{
		"nil heap":   {nil, d.t},
		"zero heap":  {&heap.Heap{}, d.t},
		"nil table":  {d.h, nil},
		"zero table": {d.h, &names.Table{}},
		"both":       {nil, nil},
	}
}

// shown returns a word as text: a symbol as <NAME>, other words much as they are read.
func (d desk) shown(w api.Word) string {
	switch w.Kind {
	case api.KindInt:
		return strconv.Itoa(w.N)
	case api.KindSym:
		s, found := d.t.Name(w.N)
		if n, _ := d.t.Find(s); !found || n != w.N {
			return "symbol " + strconv.Itoa(w.N) + ", which is not interned"
		}
		return "<" + s + ">"
	case api.KindText:
		s, _ := d.h.TextOf(w)
		return `"` + s + `"`
	case api.KindVec:
		l, _ := d.h.VecOf(w)
		parts := make([]string, len(l))
		for i, x := range l {
			parts[i] = d.shown(x)
		}
		return shownVector(parts)
	}
	var parts []string
	for w.Kind == api.KindCons {
		a, _ := d.h.Car(w)
		parts = append(parts, d.shown(a))
		w, _ = d.h.Cdr(w)
	}
	return shownList(parts, d.shown(w))
}

func shownVector(parts []string) string { return "[" + strings.Join(parts, " ") + "]" }

func shownList(parts []string, last string) string {
	if last != "<nil>" {
		parts = append(slices.Clone(parts), ".", last)
	}
	return "(" + strings.Join(parts, " ") + ")"
}

// objects returns all objects in the order of their numbers, which must begin at 0 without a gap.
func (d desk) objects() []string {
	var l []string
	for n := range d.h.Many() {
		for _, kind := range []int{api.KindCons, api.KindText, api.KindVec} {
			if w := (api.Word{Kind: kind, N: n}); d.h.Live(w) {
				l = append(l, d.shown(w))
			}
		}
	}
	return l
}

// symbols returns the names of the symbols behind the fixed ones.
func (d desk) symbols() []string {
	var l []string
	for n := api.FixedSyms; n < d.t.Many(); n++ {
		s, _ := d.t.Name(n)
		l = append(l, s)
	}
	return l
}

func wantObjects(t *testing.T, d desk, want ...string) {
	t.Helper()
	if l := d.objects(); !slices.Equal(l, want) {
		t.Errorf("objects %q instead of %q", l, want)
	}
}

func wantSymbols(t *testing.T, d desk, want ...string) {
	t.Helper()
	if l := d.symbols(); !slices.Equal(l, want) {
		t.Errorf("symbols %q instead of %q", l, want)
	}
}

// wantForm checks what Read returns of s from at on.
func wantForm(t *testing.T, d desk, s string, at int, want string, wantEnd int) {
	t.Helper()
	w, end, f := read.Read(d.h, d.t, s, at)
	if f != (api.Fault{}) || end != wantEnd || d.shown(w) != want {
		t.Errorf("Read(%s, %d): %s, %d, %v instead of %s, %d", brief(s), at, d.shown(w), end, f, want, wantEnd)
	}
}

// wantFault checks that Read of s from at on returns that error.
func wantFault(t *testing.T, d desk, s string, at int, e api.Errno, place int) {
	t.Helper()
	w, end, f := read.Read(d.h, d.t, s, at)
	if w != none || end != 0 || f != (api.Fault{Err: e, At: place}) {
		t.Errorf("Read(%s, %d): %v, %d, %v instead of %v at %d", brief(s), at, w, end, f, e, place)
	}
}

// wantAll checks what All returns.
func wantAll(t *testing.T, d desk, s string, want ...string) {
	t.Helper()
	l, f := read.All(d.h, d.t, s)
	var forms []string
	for _, w := range l {
		forms = append(forms, d.shown(w))
	}
	if f != (api.Fault{}) || !slices.Equal(forms, want) {
		t.Errorf("All(%s): %q, %v instead of %q", brief(s), forms, f, want)
	}
}

// wantAllFault checks that All returns that error.
func wantAllFault(t *testing.T, d desk, s string, e api.Errno, place int) {
	t.Helper()
	l, f := read.All(d.h, d.t, s)
	if len(l) != 0 || f != (api.Fault{Err: e, At: place}) {
		t.Errorf("All(%s): %v, %v instead of %v at %d", brief(s), l, f, e, place)
	}
}

func brief(s string) string {
	if len(s) > 100 {
		return strconv.Quote(s[:100]) + ".."
	}
	return strconv.Quote(s)
}

func length(s string) int { return utf8.RuneCountInString(s) }
