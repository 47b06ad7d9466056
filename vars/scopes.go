package vars

import (
	"maps"
	"slices"

	"copyist/api"
)

// home returns the scope in which variable n has its cell: the current one if it is local there.
func (v *Vars) home(n int) int {
	if v.cells.has(v.scope, n) {
		return v.scope
	}
	return noScope
}

// isScope reports whether k is a scope, which noScope is not.
func isScope(k int) bool { return k >= 1 && k <= api.MaxScopes }

// Scope returns the current scope, 0 if there is none.
func (v *Vars) Scope() int {
	if !v.valid() {
		return 0
	}
	return v.scope
}

// SetScope makes scope k current, none if k is 0.
func (v *Vars) SetScope(k int) api.Errno {
	if !v.valid() {
		return api.ErrNil
	}
	if k != noScope && !isScope(k) {
		return api.ErrRange
	}
	v.scope = k
	return api.OK
}

// MakeLocal makes variable n local in the current scope, with what its default cell contains.
func (v *Vars) MakeLocal(n int) api.Errno {
	if e := v.checkChange(n); e != api.OK {
		return e
	}
	if v.scope == noScope {
		return api.ErrState
	}
	if !v.cells.has(v.scope, n) {
		v.cells.store(v.scope, n, v.cells.content(noScope, n))
	}
	return api.OK
}

// KillLocal makes variable n no longer local in the current scope.
func (v *Vars) KillLocal(n int) api.Errno {
	if e := v.check(n); e != api.OK {
		return e
	}
	if v.scope == noScope {
		return api.ErrState
	}
	v.cells.remove(v.scope, n)
	return api.OK
}

// IsLocal reports whether variable n is local in scope k.
func (v *Vars) IsLocal(n, k int) bool {
	return v.valid() && isScope(k) && v.cells.has(k, n)
}

// Local returns the value of variable n in scope k, and whether it is local there and has one.
func (v *Vars) Local(n, k int) (api.Word, bool) {
	if !v.IsLocal(n, k) {
		return api.Word{}, false
	}
	return v.cells.value(k, n)
}

// SetLocal makes variable n local in scope k with the value w.
func (v *Vars) SetLocal(n, k int, w api.Word) api.Errno {
	if e := v.check(n); e != api.OK {
		return e
	}
	if !isScope(k) {
		return api.ErrRange
	}
	if v.Const(n) {
		return api.ErrConst
	}
	v.cells.store(k, n, full(w))
	return api.OK
}

// Locals returns the variables that are local in scope k, in ascending order.
func (v *Vars) Locals(k int) []int {
	if !v.valid() || !isScope(k) {
		return nil
	}
	return slices.Sorted(maps.Keys(v.cells[k]))
}

// Drop makes all variables no longer local in scope k, which is not current any more.
func (v *Vars) Drop(k int) api.Errno {
	if !v.valid() {
		return api.ErrNil
	}
	if !isScope(k) {
		return api.ErrRange
	}
	delete(v.cells, k)
	if v.scope == k {
		v.scope = noScope
	}
	return api.OK
}
