package heap

import "copyist/api"

// object is what a heap stores under a number: a *pair, a *text, a *vector or a *code.
type object interface {
	size() int
	clone() object
}

type pair struct{ car, cdr api.Word }

type text struct {
	chars string
	n     int // the number of its characters
}

type vector struct{ words []api.Word }

type code struct{ api.Code }

func (x *pair) size() int   { return 0 }
func (x *text) size() int   { return x.n }
func (x *vector) size() int { return len(x.words) }
func (x *code) size() int   { return len(x.Bytes) + len(x.Consts) }

func (x *pair) clone() object   { return &pair{car: x.car, cdr: x.cdr} }
func (x *text) clone() object   { return &text{chars: x.chars, n: x.n} }
func (x *vector) clone() object { return &vector{words: copyOf(x.words)} }
func (x *code) clone() object   { return &code{copyOfCode(x.Code)} }

// kindOf returns the kind of the words that refer to x.
func kindOf(x object) int {
	switch x.(type) {
	case *pair:
		return api.KindCons
	case *text:
		return api.KindText
	case *vector:
		return api.KindVec
	default:
		return api.KindCode
	}
}

// eachWord calls visit with every word that x contains.
func eachWord(x object, visit func(w api.Word)) {
	var words []api.Word
	switch x := x.(type) {
	case *pair:
		visit(x.car)
		visit(x.cdr)
	case *vector:
		words = x.words
	case *code:
		words = x.Consts
	}
	for _, w := range words {
		visit(w)
	}
}

// copyOf returns the elements of l in new memory.
func copyOf[T any](l []T) []T { return append([]T(nil), l...) }

// copyOfCode returns c with its bytes and constants in new memory.
func copyOfCode(c api.Code) api.Code {
	c.Bytes, c.Consts = copyOf(c.Bytes), copyOf(c.Consts)
	return c
}
