package lists

import (
	"sort"

	"copyist/api"
)

// sameAs returns a function that reports whether a word is x.
func sameAs(x api.Word) func(w api.Word) bool {
	return func(w api.Word) bool { return Eql(w, x) }
}

// equalTo returns a function that reports whether a word is equal to x. The comparisons of all its calls are counted together.
func (s store) equalTo(x api.Word) func(w api.Word) bool {
	made := 0
	return func(w api.Word) bool { return s.equal(x, w, 0, &made) }
}

// equal reports whether a and b, which are nested so many levels deep, are equal. It counts the comparisons that have been made.
func (s store) equal(a, b api.Word, nested int, made *int) bool {
	for moved := 0; ; moved++ {
		s.count(nested, moved, made)
		if a == b {
			return true
		}
		if !s.isCons(a) || !s.isCons(b) {
			return s.equalTexts(a, b) || s.equalVectors(a, b, nested, made)
		}
		if !s.equal(s.car(a), s.car(b), nested+1, made) {
			return false
		}
		a, b = s.cdr(a), s.cdr(b)
	}
}

// count counts a comparison, unless it must not be made.
func (s store) count(nested, moved int, made *int) {
	switch {
	case nested > api.MaxNest:
		panic(api.ErrDepth)
	case *made == api.MaxPairs:
		panic(api.ErrFuel)
	case moved > api.MaxChars:
		panic(api.ErrLoop)
	}
	*made++
}

func (s store) equalTexts(a, b api.Word) bool {
	x, ex := s.TextOf(a)
	y, ey := s.TextOf(b)
	return ex == api.OK && ey == api.OK && x == y
}

func (s store) equalVectors(a, b api.Word, nested int, made *int) bool {
	if !s.isVector(a) || !s.isVector(b) {
		return false
	}
	n := s.size(a)
	if s.size(b) != n {
		return false
	}
	for i := range n {
		if !s.equal(sure(s.At(a, i)), sure(s.At(b, i)), nested+1, made) {
			return false
		}
	}
	return true
}

func (s store) isVector(w api.Word) bool { return w.Kind == api.KindVec && s.Live(w) }

// size returns the number of elements of a vector. It searches for it, as VecOf would copy all elements, which may be many more than are compared.
func (s store) size(w api.Word) int {
	return sort.Search(api.MaxChars, func(i int) bool {
		_, e := s.At(w, i)
		return e != api.OK
	})
}
