package heap_test

import (
	"math"
	"testing"

	"copyist/api"
	"copyist/heap"
)

// sample returns a heap with a cons, a string, a vector of three elements and code, with the numbers 0 to 3, and four free numbers.
func sample(t *testing.T) *heap.Heap {
	t.Helper()
	h := newHeap(t, 8)
	must(t, none, second(h.Cons(num(1), str(1))))
	must(t, none, second(h.Text("aé")))
	must(t, none, second(h.Vec([]api.Word{num(4), cons(0), null})))
	must(t, none, second(h.Code(api.Code{Least: 1, Most: -1, Depth: 2, Bytes: []byte{3, 4}, Consts: []api.Word{vec(2)}})))
	return h
}

// wantSample checks that h has exactly what sample puts into it.
func wantSample(t *testing.T, h *heap.Heap) {
	t.Helper()
	wantState(t, h, 4, api.MaxStore-8)
	wantCons(t, h, cons(0), num(1), str(1))
	wantText(t, h, str(1), "aé")
	wantVec(t, h, vec(2), []api.Word{num(4), cons(0), null})
	wantCode(t, h, code(3), api.Code{Least: 1, Most: -1, Depth: 2, Bytes: []byte{3, 4}, Consts: []api.Word{vec(2)}})
}

// notOf returns words that refer to no object of that kind in the heap of sample.
func notOf(kind int) []api.Word {
	l := []api.Word{num(0), num(2), {Kind: api.KindSym, N: 1}}
	for k := -1; k <= 12; k++ {
		for _, n := range []int{math.MinInt, -1, 0, 1, 2, 3, 4, 7, 8, 65536, math.MaxInt} {
			w := api.Word{Kind: k, N: n}
			if k == kind && (w == cons(0) || w == str(1) || w == vec(2) || w == code(3)) || w == null {
				continue
			}
			l = append(l, w)
		}
	}
	return l
}

// P2.2

func TestSample(t *testing.T) {
	wantSample(t, sample(t))
}

func TestNilAsCons(t *testing.T) {
	h := sample(t)
	wantCons(t, h, null, null, null)
	wantErr(t, "SetCar of nil", h.SetCar(null, num(1)), api.ErrType)
	wantErr(t, "SetCdr of nil", h.SetCdr(null, num(1)), api.ErrType)
	wantCons(t, h, null, null, null)
	wantSample(t, h)
}

func TestNoCons(t *testing.T) {
	h := sample(t)
	for _, w := range notOf(api.KindCons) {
		x, e := h.Car(w)
		wantWord(t, "Car", x, e, none, api.ErrType)
		x, e = h.Cdr(w)
		wantWord(t, "Cdr", x, e, none, api.ErrType)
		wantErr(t, "SetCar", h.SetCar(w, num(9)), api.ErrType)
		wantErr(t, "SetCdr", h.SetCdr(w, num(9)), api.ErrType)
	}
	wantSample(t, h)
}

func TestNoText(t *testing.T) {
	h := sample(t)
	for _, w := range append(notOf(api.KindText), null) {
		if s, e := h.TextOf(w); s != "" || e != api.ErrType {
			t.Errorf("TextOf(%v): %q, %v", w, s, e)
		}
	}
}

func TestNoVec(t *testing.T) {
	h := sample(t)
	for _, w := range append(notOf(api.KindVec), null) {
		if l, e := h.VecOf(w); len(l) != 0 || e != api.ErrType {
			t.Errorf("VecOf(%v): %v, %v", w, l, e)
		}
		for _, i := range []int{0, -1, 3, math.MaxInt} { // ErrType is named before ErrRange
			x, e := h.At(w, i)
			wantWord(t, "At", x, e, none, api.ErrType)
			wantErr(t, "SetAt", h.SetAt(w, i, num(9)), api.ErrType)
		}
	}
	wantSample(t, h)
}

func TestNoCode(t *testing.T) {
	h := sample(t)
	for _, w := range append(notOf(api.KindCode), null) {
		if c, e := h.CodeOf(w); !sameCode(c, api.Code{}) || e != api.ErrType {
			t.Errorf("CodeOf(%v): %v, %v", w, c, e)
		}
	}
}

func TestSetCarSetCdr(t *testing.T) {
	h := sample(t)
	wantErr(t, "SetCar", h.SetCar(cons(0), vec(2)), api.OK)
	wantCons(t, h, cons(0), vec(2), str(1))
	wantErr(t, "SetCdr", h.SetCdr(cons(0), cons(0)), api.OK)
	wantCons(t, h, cons(0), vec(2), cons(0))
	w, e := h.Cons(num(5), num(6))
	wantCons(t, h, must(t, w, e), num(5), num(6))
	wantCons(t, h, cons(0), vec(2), cons(0))
}

func TestElements(t *testing.T) {
	h := sample(t)
	for i, want := range []api.Word{num(4), cons(0), null} {
		w, e := h.At(vec(2), i)
		wantWord(t, "At", w, e, want, api.OK)
	}
	for _, i := range []int{-1, 3, 4, math.MinInt, math.MaxInt, 1 << 32} {
		w, e := h.At(vec(2), i)
		wantWord(t, "At", w, e, none, api.ErrRange)
		wantErr(t, "SetAt", h.SetAt(vec(2), i, num(9)), api.ErrRange)
	}
	wantSample(t, h)
	for i := range 3 {
		wantErr(t, "SetAt", h.SetAt(vec(2), i, num(10+i)), api.OK)
		w, e := h.At(vec(2), i)
		wantWord(t, "At", w, e, num(10+i), api.OK)
	}
	wantVec(t, h, vec(2), []api.Word{num(10), num(11), num(12)})
	wantState(t, h, 4, api.MaxStore-8)

	w, e := h.Vec(nil)
	empty := must(t, w, e)
	w, e = h.At(empty, 0)
	wantWord(t, "At of an empty vector", w, e, none, api.ErrRange)
	wantErr(t, "SetAt of an empty vector", h.SetAt(empty, 0, null), api.ErrRange)
}

// A changed argument or result changes nothing in the heap (R4).
func TestIndependentOfArguments(t *testing.T) {
	h := newHeap(t, 8)
	l := make([]api.Word, 2, 10)
	bytes, consts := make([]byte, 2, 10), make([]api.Word, 2, 10)
	v := must(t, vec(0), second(h.Vec(l)))
	c := must(t, code(1), second(h.Code(api.Code{Bytes: bytes, Consts: consts})))
	l[0], bytes[0], consts[0] = num(9), 9, num(9)
	_, _, _ = append(l, num(8)), append(bytes, 8), append(consts, num(8))
	wantVec(t, h, v, make([]api.Word, 2))
	wantCode(t, h, c, api.Code{Bytes: make([]byte, 2), Consts: make([]api.Word, 2)})
	wantErr(t, "SetAt", h.SetAt(v, 1, num(7)), api.OK)
	if l[1] != num(0) {
		t.Error("SetAt changed the slice that was given to Vec")
	}
}

func TestIndependentResults(t *testing.T) {
	h := sample(t)
	l, _ := h.VecOf(vec(2))
	other, _ := h.VecOf(vec(2))
	l[0] = num(9)
	if other[0] != num(4) {
		t.Error("two results of VecOf share memory")
	}
	c, _ := h.CodeOf(code(3))
	again, _ := h.CodeOf(code(3))
	c.Bytes[0], c.Consts[0] = 9, num(9)
	if again.Bytes[0] != 3 || again.Consts[0] != vec(2) {
		t.Error("two results of CodeOf share memory")
	}
	wantSample(t, h)
	wantErr(t, "SetAt", h.SetAt(vec(2), 1, num(7)), api.OK)
	if other[1] != cons(0) {
		t.Error("SetAt changed a result of VecOf")
	}
}

// R2, P2.3: a nil and a zero heap.
func TestInvalidHeap(t *testing.T) {
	for _, h := range []*heap.Heap{nil, {}} {
		for range 2 { // the calls leave the heap invalid
			wantAllErrNil(t, h)
			wantState(t, h, 0, 0)
			if h.Limit() != 0 {
				t.Errorf("Limit of an invalid heap: %d", h.Limit())
			}
			wantLive(t, h, false, oddWords()...)
			wantCollect(t, h, 0)
			wantCollect(t, h, 0, oddWords()...)
			wantAllErrNil(t, h.Copy())
			wantState(t, h.Copy(), 0, 0)
		}
	}
}

// wantAllErrNil checks that on h, which is invalid, ErrNil comes before every other error.
func wantAllErrNil(t *testing.T, h *heap.Heap) {
	t.Helper()
	w, e := h.Cons(null, null)
	wantWord(t, "Cons", w, e, none, api.ErrNil)
	w, e = h.Text("a")
	wantWord(t, "Text", w, e, none, api.ErrNil)
	w, e = h.Text("\xff")
	wantWord(t, "Text", w, e, none, api.ErrNil)
	for _, n := range []int{0, api.MaxChars + 1} {
		w, e = h.Vec(make([]api.Word, n))
		wantWord(t, "Vec", w, e, none, api.ErrNil)
		w, e = h.Code(api.Code{Bytes: make([]byte, n)})
		wantWord(t, "Code", w, e, none, api.ErrNil)
	}
	for _, x := range []api.Word{null, num(5), cons(0), vec(0)} {
		w, e = h.Car(x)
		wantWord(t, "Car", w, e, none, api.ErrNil)
		w, e = h.Cdr(x)
		wantWord(t, "Cdr", w, e, none, api.ErrNil)
		w, e = h.At(x, -1)
		wantWord(t, "At", w, e, none, api.ErrNil)
		wantErr(t, "SetCar", h.SetCar(x, x), api.ErrNil)
		wantErr(t, "SetCdr", h.SetCdr(x, x), api.ErrNil)
		wantErr(t, "SetAt", h.SetAt(x, -1, x), api.ErrNil)
		s, e := h.TextOf(x)
		l, e1 := h.VecOf(x)
		c, e2 := h.CodeOf(x)
		if s != "" || len(l) != 0 || !sameCode(c, api.Code{}) || e != api.ErrNil || e1 != api.ErrNil || e2 != api.ErrNil {
			t.Errorf("TextOf, VecOf, CodeOf of %v: %v, %v, %v", x, e, e1, e2)
		}
	}
}
