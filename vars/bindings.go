package vars

import (
	"slices"

	"copyist/api"
)

// binding is what a cell contained before it was bound, and how to put that back.
type binding struct {
	recorded cell
	restore  func(cells, cell)
}

// Bind records what the cell of variable n contains, and stores w there.
func (v *Vars) Bind(n int, w api.Word) api.Errno {
	if e := v.checkChange(n); e != api.OK {
		return e
	}
	if len(v.bindings) == api.MaxBinds {
		return api.ErrDepth
	}
	k := v.home(n)
	v.bindings = append(v.bindings, binding{v.cells.content(k, n), restorer(k, n)})
	v.cells.store(k, n, full(w))
	return api.OK
}

// restorer returns a function that stores in the cell of variable n in scope k, if it still exists.
// It looks the cell up, since a local one may have been removed or made anew by then, and it takes the cells as an argument, since copies of the variables share it.
func restorer(k, n int) func(cells, cell) {
	return func(x cells, c cell) {
		if x.has(k, n) {
			x.store(k, n, c)
		}
	}
}

// Unbind undoes all bindings but the oldest depth.
func (v *Vars) Unbind(depth int) api.Errno {
	if !v.valid() {
		return api.ErrNil
	}
	if depth < 0 || depth > len(v.bindings) {
		return api.ErrRange
	}
	for _, b := range slices.Backward(v.bindings[depth:]) {
		b.restore(v.cells, b.recorded)
	}
	v.bindings = slices.Delete(v.bindings, depth, len(v.bindings))
	return api.OK
}

// Depth returns the number of bindings.
func (v *Vars) Depth() int {
	if !v.valid() {
		return 0
	}
	return len(v.bindings)
}
