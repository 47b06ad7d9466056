package heap_test

import (
	"math"
	"slices"
	"strings"
	"testing"

	"copyist/api"
	"copyist/heap"
)

// P2.1

func TestNew(t *testing.T) {
	for _, limit := range []int{1, 2, 1000, api.MaxObjects - 1, api.MaxObjects} {
		h, e := heap.New(limit)
		if e != api.OK || h == nil || h.Limit() != limit {
			t.Fatalf("New(%d): %v, %v", limit, h, e)
		}
		wantState(t, h, 0, api.MaxStore)
		wantLive(t, h, false, cons(0), str(0), vec(0), code(0))
	}
	for _, limit := range []int{0, -1, math.MinInt, api.MaxObjects + 1, math.MaxInt, 1<<32 + 1} {
		h, e := heap.New(limit)
		if e != api.ErrRange || h.Many() != 0 || h.Copy().Limit() != 0 {
			t.Errorf("New(%d): %v, %v", limit, h, e)
		}
		_, e = h.Cons(null, null)
		wantErr(t, "Cons in the heap that New returned with an error", e, api.ErrNil)
	}
}

func TestExamples(t *testing.T) {
	h := newHeap(t, 2)
	w, e := h.Cons(num(1), null)
	wantWord(t, "Cons", w, e, cons(0), api.OK)
	w, e = h.Text("a")
	wantWord(t, "Text", w, e, str(1), api.OK)
	w, e = h.Vec(nil)
	wantWord(t, "Vec", w, e, none, api.ErrFull)
	wantCollect(t, h, 1, str(1))
	w, e = h.Vec(nil)
	wantWord(t, "Vec", w, e, vec(0), api.OK)
	w, e = h.Car(null)
	wantWord(t, "Car of nil", w, e, null, api.OK)
	w, e = h.Car(num(5))
	wantWord(t, "Car of 5", w, e, none, api.ErrType)
}

// oddWords are words of all kinds and of none, most of which refer to nothing.
func oddWords() []api.Word {
	var l []api.Word
	for kind := -2; kind <= 12; kind++ {
		for _, n := range []int{math.MinInt, -1, 0, 1, 65536, math.MaxInt} {
			l = append(l, api.Word{Kind: kind, N: n})
		}
	}
	return append(l, api.Word{Kind: math.MaxInt, N: 3}, api.Word{Kind: math.MinInt, N: 3})
}

func TestStoresAnyWords(t *testing.T) {
	h := newHeap(t, 1000)
	l := oddWords()
	for i, w := range l {
		other := l[len(l)-1-i]
		c, e := h.Cons(w, other)
		wantCons(t, h, must(t, c, e), w, other)
		wantErr(t, "SetCar", h.SetCar(c, other), api.OK)
		wantErr(t, "SetCdr", h.SetCdr(c, w), api.OK)
		wantCons(t, h, c, other, w)
	}
	v, e := h.Vec(l)
	wantVec(t, h, must(t, v, e), l)
	c, e := h.Code(api.Code{Consts: l})
	wantCode(t, h, must(t, c, e), api.Code{Consts: l})
}

func TestText(t *testing.T) {
	h := newHeap(t, 100)
	room := api.MaxStore
	for i, x := range []struct {
		s    string
		size int
	}{{"", 0}, {"a", 1}, {"aé", 2}, {"\x00", 1}, {"e\u0301€😀\n", 5}, {"\U0010ffff", 1}, {"\ufffd", 1}} {
		w, e := h.Text(x.s)
		wantWord(t, "Text", w, e, str(i), api.OK)
		wantText(t, h, w, x.s)
		room -= x.size
		wantState(t, h, i+1, room)
	}
	for _, s := range []string{"\xff", "a\x80", "\xc0\x80", "\xed\xa0\x80", "\xf4\x90\x80\x80", "é\xc3"} {
		w, e := h.Text(s)
		wantWord(t, "Text of an invalid string", w, e, none, api.ErrForm)
	}
	wantState(t, h, 7, room)
}

func TestTextLimit(t *testing.T) {
	h := newHeap(t, 3)
	full := strings.Repeat("😀", api.MaxChars)
	w, e := h.Text(full)
	wantText(t, h, must(t, w, e), full)
	wantState(t, h, 1, api.MaxStore-api.MaxChars)
	w, e = h.Text(full + "a")
	wantWord(t, "Text of MaxChars+1 characters", w, e, none, api.ErrLong)
	w, e = h.Text(full + "a\xff")
	wantWord(t, "invalid Text of MaxChars+1 characters", w, e, none, api.ErrForm)
	wantState(t, h, 1, api.MaxStore-api.MaxChars)
}

func TestVec(t *testing.T) {
	h := newHeap(t, 100)
	room := api.MaxStore
	for i, l := range [][]api.Word{nil, {}, {num(1)}, {null, num(-1), vec(2)}, slices.Repeat([]api.Word{num(7)}, api.MaxChars)} {
		w, e := h.Vec(l)
		wantWord(t, "Vec", w, e, vec(i), api.OK)
		wantVec(t, h, w, l)
		room -= len(l)
		wantState(t, h, i+1, room)
	}
	w, e := h.Vec(make([]api.Word, api.MaxChars+1))
	wantWord(t, "Vec of MaxChars+1 elements", w, e, none, api.ErrLong)
	wantState(t, h, 5, room)
}

func TestCode(t *testing.T) {
	h := newHeap(t, 100)
	room := api.MaxStore
	many := slices.Repeat([]api.Word{num(7)}, api.MaxChars)
	for i, c := range []api.Code{
		{},
		{Bytes: []byte{}, Consts: []api.Word{}},
		{Least: 1, Most: 2, Depth: 3, Bytes: []byte{4, 255}, Consts: []api.Word{num(5)}},
		{Least: math.MinInt, Most: math.MaxInt, Depth: -1, Bytes: []byte{0}, Consts: []api.Word{{Kind: 99, N: -1}}},
		{Most: -1, Bytes: make([]byte, api.MaxChars)},
		{Consts: many},
		{Bytes: make([]byte, api.MaxChars), Consts: many},
	} {
		w, e := h.Code(c)
		wantWord(t, "Code", w, e, code(i), api.OK)
		wantCode(t, h, w, c)
		room -= len(c.Bytes) + len(c.Consts)
		wantState(t, h, i+1, room)
	}
	for _, c := range []api.Code{
		{Bytes: make([]byte, api.MaxChars+1)},
		{Consts: make([]api.Word, api.MaxChars+1)},
		{Bytes: make([]byte, api.MaxChars+1), Consts: make([]api.Word, api.MaxChars+1)},
	} {
		w, e := h.Code(c)
		wantWord(t, "Code of more than MaxChars bytes or constants", w, e, none, api.ErrLong)
	}
	wantState(t, h, 7, room)
}

// wantFull checks that h has no number for another object, and that errors named before ErrFull are returned.
func wantFull(t *testing.T, h *heap.Heap) {
	t.Helper()
	many, room := h.Many(), h.Room()
	w, e := h.Cons(null, null)
	wantWord(t, "Cons in a full heap", w, e, none, api.ErrFull)
	w, e = h.Text("")
	wantWord(t, "Text in a full heap", w, e, none, api.ErrFull)
	w, e = h.Vec(nil)
	wantWord(t, "Vec in a full heap", w, e, none, api.ErrFull)
	w, e = h.Code(api.Code{})
	wantWord(t, "Code in a full heap", w, e, none, api.ErrFull)
	w, e = h.Text("\xff")
	wantWord(t, "invalid Text in a full heap", w, e, none, api.ErrForm)
	w, e = h.Text(strings.Repeat("a", api.MaxChars+1))
	wantWord(t, "long Text in a full heap", w, e, none, api.ErrLong)
	w, e = h.Vec(make([]api.Word, api.MaxChars+1))
	wantWord(t, "long Vec in a full heap", w, e, none, api.ErrLong)
	w, e = h.Code(api.Code{Bytes: make([]byte, api.MaxChars+1)})
	wantWord(t, "long Code in a full heap", w, e, none, api.ErrLong)
	wantState(t, h, many, room)
}

func TestFullByNumber(t *testing.T) {
	for _, limit := range []int{1, 2, 5, api.MaxObjects} {
		h := newHeap(t, limit)
		for i := range limit {
			w, e := h.Cons(num(i), cons(i-1))
			wantWord(t, "Cons", w, e, cons(i), api.OK)
		}
		wantState(t, h, limit, api.MaxStore)
		wantFull(t, h)
		for i := range limit {
			wantCons(t, h, cons(i), num(i), cons(i-1))
		}
	}
}

func TestFullBySize(t *testing.T) {
	h := newHeap(t, 100)
	for i := range 15 {
		w, e := h.Text(strings.Repeat("a", api.MaxChars))
		wantWord(t, "Text", w, e, str(i), api.OK)
	}
	w, e := h.Vec(make([]api.Word, api.MaxChars-3))
	wantWord(t, "Vec", w, e, vec(15), api.OK)
	wantState(t, h, 16, 3)
	w, e = h.Text("éééé")
	wantWord(t, "Text of four", w, e, none, api.ErrFull)
	w, e = h.Vec(make([]api.Word, 4))
	wantWord(t, "Vec of four", w, e, none, api.ErrFull)
	w, e = h.Code(api.Code{Bytes: make([]byte, 2), Consts: make([]api.Word, 2)})
	wantWord(t, "Code of four", w, e, none, api.ErrFull)
	wantState(t, h, 16, 3)

	o := h.Copy()
	w, e = o.Code(api.Code{Bytes: make([]byte, 2), Consts: make([]api.Word, 1)})
	wantWord(t, "Code of three", w, e, code(16), api.OK)
	wantState(t, o, 17, 0)
	o = h.Copy()
	w, e = o.Vec(make([]api.Word, 3))
	wantWord(t, "Vec of three", w, e, vec(16), api.OK)
	wantState(t, o, 17, 0)
	w, e = h.Text("ééé")
	wantWord(t, "Text of three", w, e, str(16), api.OK)
	wantState(t, h, 17, 0)

	// What has no size still fits; everything else does not, but errors named first are returned.
	w, e = h.Text("b")
	wantWord(t, "Text of one", w, e, none, api.ErrFull)
	w, e = h.Text("\xff")
	wantWord(t, "invalid Text", w, e, none, api.ErrForm)
	w, e = h.Vec(make([]api.Word, api.MaxChars+1))
	wantWord(t, "long Vec", w, e, none, api.ErrLong)
	w, e = h.Code(api.Code{Consts: make([]api.Word, api.MaxChars+1)})
	wantWord(t, "long Code", w, e, none, api.ErrLong)
	w, e = h.Cons(null, null)
	wantWord(t, "Cons", w, e, cons(17), api.OK)
	w, e = h.Text("")
	wantWord(t, "empty Text", w, e, str(18), api.OK)
	w, e = h.Vec(nil)
	wantWord(t, "empty Vec", w, e, vec(19), api.OK)
	w, e = h.Code(api.Code{})
	wantWord(t, "empty Code", w, e, code(20), api.OK)
	wantState(t, h, 21, 0)
	wantCollect(t, h, 20, str(16))
	wantState(t, h, 1, api.MaxStore-3)
	wantText(t, h, str(16), "ééé")
}

// Where objects are removed, the smallest free number is used first, in whichever order they were removed.
func TestReusedNumbers(t *testing.T) {
	h := newHeap(t, 8)
	for i := range 7 {
		must(t, cons(i), second(h.Cons(num(i), null)))
	}
	wantCollect(t, h, 2, cons(0), cons(1), cons(2), cons(3), cons(5))
	wantCollect(t, h, 2, cons(0), cons(2), cons(5))
	w, e := h.Text("a")
	wantWord(t, "Text", w, e, str(1), api.OK)
	w, e = h.Vec(nil)
	wantWord(t, "Vec", w, e, vec(3), api.OK)
	wantCollect(t, h, 1, str(1), vec(3), cons(2), cons(5))
	for _, n := range []int{0, 4, 6, 7} {
		w, e = h.Code(api.Code{Depth: n})
		wantWord(t, "Code", w, e, code(n), api.OK)
	}
	wantFull(t, h)
	wantText(t, h, str(1), "a")
	wantVec(t, h, vec(3), nil)
	wantCons(t, h, cons(2), num(2), null)
	wantCons(t, h, cons(5), num(5), null)
	wantLive(t, h, false, cons(0), cons(1), cons(3), cons(4), cons(6), cons(7))
}

func second(_ api.Word, e api.Errno) api.Errno { return e }
