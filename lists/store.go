package lists

import (
	"iter"
	"slices"

	"copyist/api"
	"copyist/heap"
)

// store is a heap. Methods of it that are not the heap's own panic with the first error.
type store struct{ *heap.Heap }

// sure returns the result of a call, or panics with its error.
func sure[T any](x T, e api.Errno) T {
	if e != api.OK {
		panic(e)
	}
	return x
}

func null() api.Word { return api.Word{Kind: api.KindSym, N: api.SymNil} }

func (s store) isCons(w api.Word) bool { return w.Kind == api.KindCons && s.Live(w) }

func (s store) car(w api.Word) api.Word { return sure(s.Car(w)) }

func (s store) cdr(w api.Word) api.Word { return sure(s.Cdr(w)) }

// conses iterates over the conses of w and their cars. It does not end by itself if w is circular.
func (s store) conses(w api.Word) iter.Seq2[api.Word, api.Word] {
	return func(yield func(cons, car api.Word) bool) {
		for at := w; s.isCons(at); at = s.cdr(at) {
			if !yield(at, s.car(at)) {
				return
			}
		}
	}
}

// proper is like conses, but panics where w turns out not to be a proper list.
func (s store) proper(w api.Word) iter.Seq2[api.Word, api.Word] {
	return func(yield func(cons, car api.Word) bool) {
		n, rest := 0, w
		for cons, car := range s.conses(w) {
			if n == api.MaxChars {
				panic(api.ErrLoop)
			}
			if !yield(cons, car) {
				return
			}
			n, rest = n+1, s.cdr(cons)
		}
		if rest != null() {
			panic(api.ErrType)
		}
	}
}

func (s store) elements(w api.Word) []api.Word {
	var l []api.Word
	for _, x := range s.proper(w) {
		l = append(l, x)
	}
	return l
}

// list creates conses for words, from the last one to the first; end is the last cdr.
func (s store) list(l []api.Word, end api.Word) api.Word {
	if len(l) > s.Limit()-s.Many() {
		panic(api.ErrFull)
	}
	for _, x := range slices.Backward(l) {
		end = sure(s.Cons(x, end))
	}
	return end
}

func (s store) tail(w api.Word, n int) api.Word {
	if n < 0 || n > api.MaxChars {
		panic(api.ErrRange)
	}
	for range n {
		w = s.cdr(w)
	}
	return w
}

// find returns the first cons of w whose car matches, nil if there is none.
func (s store) find(w api.Word, matches func(x api.Word) bool) api.Word {
	for cons, x := range s.proper(w) {
		if matches(x) {
			return cons
		}
	}
	return null()
}

// carIs returns a function that reports whether a word is a cons whose car matches.
func (s store) carIs(matches func(x api.Word) bool) func(w api.Word) bool {
	return func(w api.Word) bool { return s.isCons(w) && matches(s.car(w)) }
}

// unlink makes the conses of w whose cars do not match a list.
func (s store) unlink(w api.Word, matches func(x api.Word) bool) api.Word {
	// In this order, so that nothing has been changed, nor even compared, before an error is found.
	var kept []api.Word
	for cons := range s.proper(w) {
		kept = append(kept, cons)
	}
	kept = slices.DeleteFunc(kept, func(cons api.Word) bool { return matches(s.car(cons)) })
	list := null()
	for _, cons := range slices.Backward(kept) {
		s.SetCdr(cons, list)
		list = cons
	}
	return list
}

// value returns the word that follows key in the property list w.
func (s store) value(w, key api.Word) (api.Word, bool) {
	n := 0
	var last api.Word
	for _, x := range s.conses(w) {
		if n == api.MaxChars {
			break
		}
		if n%2 == 1 && last == key {
			return x, true
		}
		n, last = n+1, x
	}
	return api.Word{}, false
}

// withValue returns the elements of a property list in which value follows key; it may change l.
func withValue(l []api.Word, key, value api.Word) []api.Word {
	for i := 1; i < len(l); i += 2 {
		if l[i-1] == key {
			l[i] = value
			return l
		}
	}
	return append(l, key, value)
}
