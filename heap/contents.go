package heap

import "copyist/api"

func isNil(w api.Word) bool { return w.Kind == api.KindSym && w.N == api.SymNil }

// Car returns the car of a cons, and nil for nil.
func (h *Heap) Car(w api.Word) (api.Word, api.Errno) {
	if !h.valid() {
		return api.Word{}, api.ErrNil
	}
	if isNil(w) {
		return w, api.OK
	}
	x, is := h.find(w).(*pair)
	if !is {
		return api.Word{}, api.ErrType
	}
	return x.car, api.OK
}

// Cdr returns the cdr of a cons, and nil for nil.
func (h *Heap) Cdr(w api.Word) (api.Word, api.Errno) {
	if !h.valid() {
		return api.Word{}, api.ErrNil
	}
	if isNil(w) {
		return w, api.OK
	}
	x, is := h.find(w).(*pair)
	if !is {
		return api.Word{}, api.ErrType
	}
	return x.cdr, api.OK
}

// SetCar makes x the car of a cons.
func (h *Heap) SetCar(w, x api.Word) api.Errno {
	if !h.valid() {
		return api.ErrNil
	}
	p, is := h.find(w).(*pair)
	if !is {
		return api.ErrType
	}
	p.car = x
	return api.OK
}

// SetCdr makes x the cdr of a cons.
func (h *Heap) SetCdr(w, x api.Word) api.Errno {
	if !h.valid() {
		return api.ErrNil
	}
	p, is := h.find(w).(*pair)
	if !is {
		return api.ErrType
	}
	p.cdr = x
	return api.OK
}

// TextOf returns the characters of a string.
func (h *Heap) TextOf(w api.Word) (string, api.Errno) {
	if !h.valid() {
		return "", api.ErrNil
	}
	x, is := h.find(w).(*text)
	if !is {
		return "", api.ErrType
	}
	return x.chars, api.OK
}

// VecOf returns the elements of a vector.
func (h *Heap) VecOf(w api.Word) ([]api.Word, api.Errno) {
	if !h.valid() {
		return nil, api.ErrNil
	}
	x, is := h.find(w).(*vector)
	if !is {
		return nil, api.ErrType
	}
	return copyOf(x.words), api.OK
}

// CodeOf returns the contents of code.
func (h *Heap) CodeOf(w api.Word) (api.Code, api.Errno) {
	if !h.valid() {
		return api.Code{}, api.ErrNil
	}
	x, is := h.find(w).(*code)
	if !is {
		return api.Code{}, api.ErrType
	}
	return copyOfCode(x.Code), api.OK
}

// At returns the element at index i of a vector.
func (h *Heap) At(w api.Word, i int) (api.Word, api.Errno) {
	x, e := h.element(w, i)
	if e != api.OK {
		return api.Word{}, e
	}
	return *x, api.OK
}

// SetAt replaces the element at index i of a vector by x.
func (h *Heap) SetAt(w api.Word, i int, x api.Word) api.Errno {
	old, e := h.element(w, i)
	if e != api.OK {
		return e
	}
	*old = x
	return api.OK
}

// element returns where the element at index i of a vector is stored.
func (h *Heap) element(w api.Word, i int) (*api.Word, api.Errno) {
	if !h.valid() {
		return nil, api.ErrNil
	}
	x, is := h.find(w).(*vector)
	if !is {
		return nil, api.ErrType
	}
	if i < 0 || i >= len(x.words) {
		return nil, api.ErrRange
	}
	return &x.words[i], api.OK
}
