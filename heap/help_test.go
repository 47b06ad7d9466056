package heap_test

import (
	"slices"
	"testing"

	"copyist/api"
	"copyist/heap"
)

var (
	null = api.Word{Kind: api.KindSym, N: api.SymNil}
	none = api.Word{}
)

func num(n int) api.Word  { return api.Word{Kind: api.KindInt, N: n} }
func cons(n int) api.Word { return api.Word{Kind: api.KindCons, N: n} }
func str(n int) api.Word  { return api.Word{Kind: api.KindText, N: n} }
func vec(n int) api.Word  { return api.Word{Kind: api.KindVec, N: n} }
func code(n int) api.Word { return api.Word{Kind: api.KindCode, N: n} }

func newHeap(t *testing.T, limit int) *heap.Heap {
	t.Helper()
	h, e := heap.New(limit)
	if e != api.OK {
		t.Fatalf("New(%d): %v", limit, e)
	}
	return h
}

// must returns w, which a call has created, and ends the test if it has not.
func must(t *testing.T, w api.Word, e api.Errno) api.Word {
	t.Helper()
	if e != api.OK {
		t.Fatal(e)
	}
	return w
}

// wantWord checks the results of a call that returns a word.
func wantWord(t *testing.T, what string, w api.Word, e api.Errno, want api.Word, wantErr api.Errno) {
	t.Helper()
	if w != want || e != wantErr {
		t.Errorf("%s: %v, %v instead of %v, %v", what, w, e, want, wantErr)
	}
}

func wantErr(t *testing.T, what string, e, want api.Errno) {
	t.Helper()
	if e != want {
		t.Errorf("%s: %v instead of %v", what, e, want)
	}
}

func wantCons(t *testing.T, h *heap.Heap, w, a, d api.Word) {
	t.Helper()
	x, e := h.Car(w)
	wantWord(t, "Car", x, e, a, api.OK)
	x, e = h.Cdr(w)
	wantWord(t, "Cdr", x, e, d, api.OK)
}

func wantText(t *testing.T, h *heap.Heap, w api.Word, want string) {
	t.Helper()
	if s, e := h.TextOf(w); e != api.OK || s != want {
		t.Errorf("TextOf(%v): %d bytes, %v instead of %d bytes", w, len(s), e, len(want))
	}
}

func wantVec(t *testing.T, h *heap.Heap, w api.Word, want []api.Word) {
	t.Helper()
	if l, e := h.VecOf(w); e != api.OK || !slices.Equal(l, want) {
		t.Errorf("VecOf(%v): %d elements, %v instead of %d elements", w, len(l), e, len(want))
	}
}

func sameCode(a, b api.Code) bool {
	return a.Least == b.Least && a.Most == b.Most && a.Depth == b.Depth && slices.Equal(a.Bytes, b.Bytes) && slices.Equal(a.Consts, b.Consts)
}

func wantCode(t *testing.T, h *heap.Heap, w api.Word, want api.Code) {
	t.Helper()
	if c, e := h.CodeOf(w); e != api.OK || !sameCode(c, want) {
		t.Errorf("CodeOf(%v): %v, %v instead of %v", w, c, e, want)
	}
}

// wantState checks how many objects h has, and its room.
func wantState(t *testing.T, h *heap.Heap, many, room int) {
	t.Helper()
	if h.Many() != many || h.Room() != room {
		t.Errorf("%d objects, room for %d, instead of %d, %d", h.Many(), h.Room(), many, room)
	}
}

func wantCollect(t *testing.T, h *heap.Heap, want int, roots ...api.Word) {
	t.Helper()
	if n := h.Collect(roots); n != want {
		t.Errorf("Collect(%v): %d instead of %d", roots, n, want)
	}
}

func wantLive(t *testing.T, h *heap.Heap, want bool, words ...api.Word) {
	t.Helper()
	for _, w := range words {
		if h.Live(w) != want {
			t.Errorf("Live(%v) is %v", w, !want)
		}
	}
}
