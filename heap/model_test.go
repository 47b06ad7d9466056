package heap_test

import (
	"math/rand"
	"slices"
	"strings"
	"testing"

	"copyist/api"
	"copyist/heap"
)

// thing is an object of a model: its kind, its words (car and cdr, elements, constants), its string, its bytes.
type thing struct {
	kind  int
	words []api.Word
	s     string
	bytes []byte
}

func (x thing) size() int {
	if x.kind == api.KindCons {
		return 0
	}
	return len([]rune(x.s)) + len(x.bytes) + len(x.words)
}

// model is a heap as the chapter describes it: objects by number, and a limit.
type model struct {
	limit  int
	things map[int]thing
}

func (m model) room() int {
	room := api.MaxStore
	for _, x := range m.things {
		room -= x.size()
	}
	return room
}

func (m model) add(x thing) (api.Word, api.Errno) {
	for n := range m.limit {
		if _, used := m.things[n]; !used && x.size() <= m.room() {
			m.things[n] = x
			return api.Word{Kind: x.kind, N: n}, api.OK
		}
	}
	return none, api.ErrFull
}

func (m model) copy() model {
	o := model{m.limit, map[int]thing{}}
	for n, x := range m.things {
		x.words, x.bytes = slices.Clone(x.words), slices.Clone(x.bytes)
		o.things[n] = x
	}
	return o
}

// collect finds what is reachable by going through all objects until there is nothing new.
func (m model) collect(roots []api.Word) int {
	reached := map[int]bool{}
	mark := func(l []api.Word) (news bool) {
		for _, w := range l {
			if x, is := m.things[w.N]; is && x.kind == w.Kind && !reached[w.N] {
				reached[w.N], news = true, true
			}
		}
		return news
	}
	for news := mark(roots); news; {
		news = false
		for n, x := range m.things {
			if reached[n] && mark(x.words) {
				news = true
			}
		}
	}
	removed := 0
	for n := range m.limit {
		if _, is := m.things[n]; is && !reached[n] {
			delete(m.things, n)
			removed++
		}
	}
	return removed
}

// pick returns a word that often refers to an object of a heap of that limit.
func pick(r *rand.Rand, limit int) api.Word {
	kinds := []int{api.KindCons, api.KindText, api.KindVec, api.KindCode, api.KindInt, api.KindSym, api.KindWindow, 11, -1}
	return api.Word{Kind: kinds[min(r.Intn(14), r.Intn(9))], N: r.Intn(limit+2) - 1}
}

func pickSome(r *rand.Rand, limit, most int) []api.Word {
	var l []api.Word
	for range r.Intn(most + 1) {
		l = append(l, pick(r, limit))
	}
	return l
}

// create makes one object in both, and compares the results.
func create(t *testing.T, r *rand.Rand, h *heap.Heap, m model) {
	t.Helper()
	var w api.Word
	var e api.Errno
	var x thing
	switch r.Intn(5) {
	case 0:
		x = thing{kind: api.KindCons, words: []api.Word{pick(r, m.limit), pick(r, m.limit)}}
		w, e = h.Cons(x.words[0], x.words[1])
	case 1:
		x = thing{kind: api.KindVec, words: pickSome(r, m.limit, 4)}
		w, e = h.Vec(x.words)
	case 2:
		x = thing{kind: api.KindText, s: strings.Repeat("é€", r.Intn(4))}
		w, e = h.Text(x.s)
	case 3: // sixteen of these fill a heap by their size
		x = thing{kind: api.KindText, s: strings.Repeat("a", api.MaxChars-r.Intn(2)*r.Intn(9))}
		w, e = h.Text(x.s)
	case 4:
		x = thing{kind: api.KindCode, words: pickSome(r, m.limit, 3), bytes: make([]byte, r.Intn(3))}
		w, e = h.Code(api.Code{Bytes: x.bytes, Consts: x.words})
	}
	x.words = slices.Clone(x.words)
	want, wantErr := m.add(x)
	wantWord(t, "a new object", w, e, want, wantErr)
}

// alter sets a word in both, if there is one.
func alter(t *testing.T, r *rand.Rand, h *heap.Heap, m model) {
	t.Helper()
	n, value := r.Intn(m.limit), pick(r, m.limit)
	x := m.things[n]
	if len(x.words) == 0 || x.kind == api.KindCode {
		return
	}
	i := r.Intn(len(x.words))
	x.words[i] = value
	switch {
	case x.kind == api.KindVec:
		wantErr(t, "SetAt", h.SetAt(vec(n), i, value), api.OK)
	case i == 0:
		wantErr(t, "SetCar", h.SetCar(cons(n), value), api.OK)
	default:
		wantErr(t, "SetCdr", h.SetCdr(cons(n), value), api.OK)
	}
}

// wantModel checks that h has exactly the objects of m.
func wantModel(t *testing.T, h *heap.Heap, m model) {
	t.Helper()
	wantState(t, h, len(m.things), m.room())
	for n := range m.limit {
		x, is := m.things[n]
		for _, kind := range []int{api.KindCons, api.KindText, api.KindVec, api.KindCode} {
			wantLive(t, h, is && x.kind == kind, api.Word{Kind: kind, N: n})
		}
		switch {
		case !is:
		case x.kind == api.KindCons:
			wantCons(t, h, cons(n), x.words[0], x.words[1])
		case x.kind == api.KindText:
			wantText(t, h, str(n), x.s)
		case x.kind == api.KindVec:
			wantVec(t, h, vec(n), x.words)
		case x.kind == api.KindCode:
			wantCode(t, h, code(n), api.Code{Bytes: x.bytes, Consts: x.words})
		}
	}
}

// TestModel runs the same calls on a heap and on a model of it, for many sequences of calls.
func TestModel(t *testing.T) {
	for seed := range 60 {
		r := rand.New(rand.NewSource(int64(seed)))
		limit := 1 + r.Intn(30)
		h, m := newHeap(t, limit), model{limit, map[int]thing{}}
		for range 80 {
			switch k := r.Intn(20); {
			case k < 12:
				create(t, r, h, m)
			case k < 17:
				alter(t, r, h, m)
			case k < 19:
				roots := pickSome(r, limit, limit/2)
				wantCollect(t, h, m.collect(roots), roots...)
			default: // go on with the copy, and check that the original stays as it was
				old, was := h, m.copy()
				h = h.Copy()
				create(t, r, h, m)
				wantCollect(t, h, m.collect(nil))
				wantModel(t, old, was)
				h, m = old, was
			}
			wantModel(t, h, m)
		}
		if t.Failed() {
			t.Fatal("seed", seed)
		}
	}
}
