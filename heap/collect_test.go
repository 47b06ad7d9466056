package heap_test

import (
	"math"
	"slices"
	"strings"
	"testing"

	"copyist/api"
)

// P2.3, P2.4

func TestLive(t *testing.T) {
	h := sample(t)
	for _, kind := range []int{api.KindInt, api.KindSym, api.KindPrim, api.KindBuffer, api.KindMarker, api.KindOver, api.KindWindow} {
		for _, n := range []int{math.MinInt, -1, 0, 1, math.MaxInt} {
			wantLive(t, h, true, api.Word{Kind: kind, N: n})
		}
	}
	for _, kind := range []int{math.MinInt, -1, 11, 12, math.MaxInt} {
		for n := range 5 {
			wantLive(t, h, false, api.Word{Kind: kind, N: n})
		}
	}
	for _, kind := range []int{api.KindCons, api.KindText, api.KindVec, api.KindCode} {
		for _, n := range []int{math.MinInt, -1, 0, 1, 2, 3, 4, 7, 8, 65536, 1 << 32, math.MaxInt} {
			w := api.Word{Kind: kind, N: n}
			wantLive(t, h, w == cons(0) || w == str(1) || w == vec(2) || w == code(3), w)
		}
	}
}

func TestCollectNothing(t *testing.T) {
	h := sample(t)
	wantCollect(t, h, 0, code(3)) // reaches the vector, that the cons, that the string
	wantSample(t, h)
	empty := newHeap(t, 3)
	wantCollect(t, empty, 0)
	wantCollect(t, empty, 0, oddWords()...)
	wantState(t, empty, 0, api.MaxStore)
}

func TestCollectAll(t *testing.T) {
	// Words that refer to nothing, or to objects of another kind, keep nothing.
	for _, roots := range [][]api.Word{nil, {}, {null, num(0), cons(1), str(0), vec(3), code(2), cons(-1), cons(4), {Kind: -1}, {Kind: 11, N: 3}, {Kind: api.KindPrim, N: 3}}} {
		h := sample(t)
		wantCollect(t, h, 4, roots...)
		wantState(t, h, 0, api.MaxStore)
		wantLive(t, h, false, cons(0), str(1), vec(2), code(3))
		wantCollect(t, h, 0, roots...)
		w, e := h.Text("b")
		wantWord(t, "Text", w, e, str(0), api.OK)
	}
}

func TestCollectParts(t *testing.T) {
	for _, x := range []struct {
		root    api.Word
		removed int
		live    []api.Word
	}{
		{str(1), 3, []api.Word{str(1)}},
		{cons(0), 2, []api.Word{cons(0), str(1)}},
		{vec(2), 1, []api.Word{cons(0), str(1), vec(2)}},
		{code(3), 0, []api.Word{cons(0), str(1), vec(2), code(3)}},
	} {
		h := sample(t)
		wantCollect(t, h, x.removed, x.root, x.root)
		for _, w := range []api.Word{cons(0), str(1), vec(2), code(3)} {
			wantLive(t, h, slices.Contains(x.live, w), w)
		}
		wantText(t, h, str(1), "aé")
	}
}

// A collection gives back the sizes of what it removes, and no others.
func TestCollectRoom(t *testing.T) {
	h := sample(t)
	wantCollect(t, h, 1, vec(2))
	wantState(t, h, 3, api.MaxStore-5)
	wantCollect(t, h, 1, cons(0))
	wantState(t, h, 2, api.MaxStore-2)
	wantCollect(t, h, 1, str(1))
	wantState(t, h, 1, api.MaxStore-2)
	wantCollect(t, h, 1)
	wantState(t, h, 0, api.MaxStore)
}

// What is contained in the car, the cdr, the first and the last element, and the first and the last constant is reached.
func TestReachedFromEveryPlace(t *testing.T) {
	h := newHeap(t, 20)
	var texts []api.Word
	for _, s := range []string{"a", "b", "c", "d", "e", "f", "g"} {
		w, e := h.Text(s)
		texts = append(texts, must(t, w, e))
	}
	c := must(t, cons(7), second(h.Cons(texts[0], texts[1])))
	v := must(t, vec(8), second(h.Vec([]api.Word{texts[2], null, texts[3]})))
	x := must(t, code(9), second(h.Code(api.Code{Consts: []api.Word{texts[4], null, texts[5]}})))
	wantCollect(t, h, 1, c, v, x)
	wantLive(t, h, true, texts[:6]...)
	wantLive(t, h, false, texts[6])
	wantErr(t, "SetCar", h.SetCar(c, null), api.OK)
	wantErr(t, "SetAt", h.SetAt(v, 2, null), api.OK)
	wantCollect(t, h, 2, c, v, x)
	wantLive(t, h, false, texts[0], texts[3])
	wantLive(t, h, true, texts[1], texts[2], texts[4], texts[5])
}

// A word with the number of an object of another kind does not reach it, wherever it is stored.
func TestStoredDeadWords(t *testing.T) {
	h := sample(t)
	a := must(t, cons(4), second(h.Cons(str(0), cons(1))))
	b := must(t, vec(5), second(h.Vec([]api.Word{a, code(2), vec(3), cons(-1), cons(6), {Kind: api.KindPrim, N: 1}})))
	wantCollect(t, h, 4, b)
	wantCons(t, h, a, str(0), cons(1))
	wantVec(t, h, b, []api.Word{a, code(2), vec(3), cons(-1), cons(6), {Kind: api.KindPrim, N: 1}})
}

func TestCycles(t *testing.T) {
	h := newHeap(t, 10)
	self := must(t, cons(0), second(h.Cons(cons(0), cons(0))))
	a := must(t, cons(1), second(h.Cons(num(1), vec(2))))
	v := must(t, vec(2), second(h.Vec([]api.Word{code(3), vec(2)})))
	c := must(t, code(3), second(h.Code(api.Code{Consts: []api.Word{cons(1), code(3)}})))
	for _, root := range []api.Word{a, v, c} {
		o := h.Copy()
		wantCollect(t, o, 1, root)
		wantLive(t, o, true, a, v, c)
		wantCollect(t, o, 3, self)
		wantState(t, o, 0, api.MaxStore)
	}
	wantCollect(t, h, 3, self)
	wantState(t, h, 1, api.MaxStore)
	wantCons(t, h, self, self, self)
	wantCollect(t, h, 1)
	wantState(t, h, 0, api.MaxStore)
}

// A chain and a cycle as long as the greatest heap are followed to their end.
func TestLongChains(t *testing.T) {
	for _, car := range []bool{false, true} {
		h := newHeap(t, api.MaxObjects)
		for i := range api.MaxObjects {
			next := cons((i + 1) % api.MaxObjects)
			a, d := num(i), next
			if car {
				a, d = d, a
			}
			must(t, none, second(h.Cons(a, d)))
		}
		wantCollect(t, h, 0, cons(17))
		wantState(t, h, api.MaxObjects, api.MaxStore)
		last, half := cons(api.MaxObjects-1), api.MaxObjects/2
		if car {
			wantErr(t, "SetCar", h.SetCar(last, null), api.OK)
		} else {
			wantErr(t, "SetCdr", h.SetCdr(last, null), api.OK)
		}
		wantCollect(t, h, half, cons(half+1), cons(half), cons(half))
		wantLive(t, h, false, cons(0), cons(half-1))
		wantLive(t, h, true, cons(half), last)
		wantCollect(t, h, api.MaxObjects-half)
	}
}

// Large objects that are collected make room for others under the same numbers.
func TestRoomAgain(t *testing.T) {
	h := newHeap(t, 17)
	s := strings.Repeat("é", api.MaxChars)
	for range 3 {
		for i := range 16 {
			w, e := h.Text(s)
			wantWord(t, "Text", w, e, str(i), api.OK)
		}
		wantState(t, h, 16, 0)
		w, e := h.Text("a")
		wantWord(t, "Text", w, e, none, api.ErrFull)
		wantCollect(t, h, 1, slices.Collect(func(yield func(api.Word) bool) {
			for i := range 16 {
				if i != 9 && !yield(str(i)) {
					return
				}
			}
		})...)
		w, e = h.Text("a")
		wantWord(t, "Text", w, e, str(9), api.OK)
		wantState(t, h, 16, api.MaxChars-1)
		wantText(t, h, str(15), s)
		wantCollect(t, h, 16)
		wantState(t, h, 0, api.MaxStore)
	}
}

func TestCollectKeepsRoots(t *testing.T) {
	h := sample(t)
	roots := []api.Word{vec(2), cons(5), vec(2)}
	h.Collect(roots)
	if !slices.Equal(roots, []api.Word{vec(2), cons(5), vec(2)}) {
		t.Error("Collect changed its argument:", roots)
	}
}

func TestCopy(t *testing.T) {
	h := sample(t)
	o := h.Copy()
	wantSample(t, o)
	if o.Limit() != h.Limit() {
		t.Error("limit of a copy:", o.Limit())
	}
	wantErr(t, "SetCar", o.SetCar(cons(0), num(9)), api.OK)
	wantErr(t, "SetCdr", o.SetCdr(cons(0), num(9)), api.OK)
	wantErr(t, "SetAt", o.SetAt(vec(2), 1, num(9)), api.OK)
	must(t, str(4), second(o.Text("xyz")))
	wantSample(t, h)
	wantCollect(t, o, 5)
	wantSample(t, h)

	o = h.Copy()
	wantErr(t, "SetCar", h.SetCar(cons(0), num(9)), api.OK)
	wantErr(t, "SetAt", h.SetAt(vec(2), 0, num(9)), api.OK)
	wantCollect(t, h, 4)
	wantSample(t, o)
}

// A copy has the same free numbers, and uses them independently.
func TestCopyFreeNumbers(t *testing.T) {
	h := newHeap(t, 6)
	for i := range 5 {
		must(t, none, second(h.Cons(num(i), null)))
	}
	wantCollect(t, h, 3, cons(0), cons(2))
	o := h.Copy()
	for _, x := range []int{1, 3, 4, 5} {
		w, e := h.Text("h")
		wantWord(t, "Text", w, e, str(x), api.OK)
	}
	wantFull(t, h)
	wantState(t, o, 2, api.MaxStore)
	for _, x := range []int{1, 3, 4, 5} {
		w, e := o.Vec(nil)
		wantWord(t, "Vec", w, e, vec(x), api.OK)
	}
	wantFull(t, o)
	wantText(t, h, str(1), "h")
}
