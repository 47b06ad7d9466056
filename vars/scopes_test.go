package vars_test

import (
	"slices"
	"testing"

	"copyist/api"
	"copyist/vars"
)

func TestScope(t *testing.T) {
	v := vars.New()
	for _, k := range []int{1, 2, api.MaxScopes, 0, 3, 3} {
		ok(t, "SetScope", v.SetScope(k))
		wantScope(t, v, k)
	}
	for _, k := range noScope[1:] {
		wantErr(t, "SetScope", v.SetScope(k), api.ErrRange)
		wantScope(t, v, 3)
	}
}

func TestMakeLocal(t *testing.T) {
	v := vars.New()
	v.SetDefault(70, num(1))
	for _, k := range []int{1, 3, api.MaxScopes} {
		v.SetScope(k)
		ok(t, "MakeLocal", v.MakeLocal(70))
		wantLocal(t, v, 70, k, num(1))
		ok(t, "Set", v.Set(70, num(k)))
		ok(t, "MakeLocal again", v.MakeLocal(70))
		wantGet(t, v, 70, num(k))
		for _, n := range []int{2, api.MaxSyms - 1} { // without a value
			ok(t, "MakeLocal", v.MakeLocal(n))
			wantVoidLocal(t, v, n, k)
			wantVoid(t, v, n)
		}
		wantLocals(t, v, k, 2, 70, api.MaxSyms-1)
	}
	wantDefault(t, v, 70, num(1))
	for _, k := range []int{1, 3, api.MaxScopes} {
		wantLocal(t, v, 70, k, num(k))
	}
	wantNotLocal(t, v, 70, 2)
	wantLocals(t, v, 2)
}

func TestLocalWithoutValue(t *testing.T) {
	v := local(t)
	ok(t, "Clear", v.Clear(70))
	wantVoidLocal(t, v, 70, 3)
	wantVoid(t, v, 70)
	wantDefault(t, v, 70, num(1))
	wantLocals(t, v, 3, 70)
	wantValues(t, v, num(1))
	ok(t, "MakeLocal", v.MakeLocal(70))
	wantVoidLocal(t, v, 70, 3)
	ok(t, "SetDefault", v.SetDefault(70, num(2)))
	wantVoid(t, v, 70)
	ok(t, "Set", v.Set(70, none)) // a value, if a zero one
	wantLocal(t, v, 70, 3, none)
}

func TestKillLocal(t *testing.T) {
	v := local(t)
	v.SetLocal(70, 4, num(6))
	v.SetLocal(71, 3, num(7))
	ok(t, "KillLocal", v.KillLocal(70))
	wantNotLocal(t, v, 70, 3)
	wantGet(t, v, 70, num(1))
	wantLocal(t, v, 70, 4, num(6))
	wantLocals(t, v, 3, 71)
	ok(t, "KillLocal again", v.KillLocal(70))
	ok(t, "KillLocal of the last one", v.KillLocal(71))
	ok(t, "KillLocal without local variables", v.KillLocal(71))
	wantLocals(t, v, 3)
	wantVoid(t, v, 71)
	ok(t, "KillLocal of nil", v.KillLocal(api.SymNil))
	wantGet(t, v, api.SymNil, symNil)
	ok(t, "MakeLocal", v.MakeLocal(70))
	wantLocal(t, v, 70, 3, num(1))
	wantValues(t, v, num(1), num(1), num(6))
}

func TestErrorsWithoutScope(t *testing.T) {
	v := local(t)
	v.SetScope(0)
	wantErr(t, "MakeLocal", v.MakeLocal(70), api.ErrState)
	wantErr(t, "MakeLocal of a constant", v.MakeLocal(api.SymT), api.ErrConst)
	wantErr(t, "KillLocal", v.KillLocal(70), api.ErrState)
	wantErr(t, "KillLocal of a constant", v.KillLocal(api.SymT), api.ErrState)
	wantLocal(t, v, 70, 3, num(5))
	wantDefault(t, v, 70, num(1))
	wantNotLocal(t, v, 70, 0)
}

func TestSetLocal(t *testing.T) {
	v := vars.New()
	v.Set(70, num(1))
	for _, k := range []int{1, 3, api.MaxScopes} {
		for _, n := range []int{2, 70, api.MaxSyms - 1} {
			wantNotLocal(t, v, n, k)
			ok(t, "SetLocal", v.SetLocal(n, k, num(k+n)))
			wantLocal(t, v, n, k, num(k+n))
			ok(t, "SetLocal again", v.SetLocal(n, k, num(k)))
			wantLocal(t, v, n, k, num(k))
		}
	}
	wantScope(t, v, 0)
	wantGet(t, v, 70, num(1))
	wantVoid(t, v, 2)
	v.SetScope(3)
	wantGet(t, v, 70, num(3))
	v.SetScope(4)
	wantGet(t, v, 70, num(1))
}

func TestNoScope(t *testing.T) {
	v := local(t)
	for _, k := range noScope {
		wantErr(t, "SetLocal", v.SetLocal(70, k, num(9)), api.ErrRange)
		wantErr(t, "SetLocal of a constant", v.SetLocal(api.SymNil, k, num(9)), api.ErrRange)
		wantErr(t, "SetLocal of no variable", v.SetLocal(-1, k, num(9)), api.ErrUnknown)
		wantErr(t, "Drop", v.Drop(k), api.ErrRange)
		wantNotLocal(t, v, 70, k)
		wantLocals(t, v, k)
	}
	wantErr(t, "SetLocal of a constant", v.SetLocal(api.SymNil, 3, num(9)), api.ErrConst)
	wantScope(t, v, 3)
	wantLocal(t, v, 70, 3, num(5))
	wantValues(t, v, num(1), num(5))
}

// P4.5: a local value is of no effect elsewhere.
func TestScopesAreSeparate(t *testing.T) {
	v := vars.New()
	v.SetDefault(70, num(1))
	for k := 2; k <= 4; k++ {
		v.SetLocal(70, k, num(k))
	}
	v.SetScope(3)
	for name, call := range changes(v) {
		if name == "MarkConst" || name == "SetDefault" {
			continue
		}
		ok(t, name, call(70))
		wantDefault(t, v, 70, num(1))
		wantLocal(t, v, 70, 2, num(2))
		wantLocal(t, v, 70, 4, num(4))
		wantNotLocal(t, v, 70, 5)
		ok(t, "SetLocal", v.SetLocal(70, 3, num(3)))
	}
	ok(t, "SetDefault", v.SetDefault(70, num(10)))
	for k := 2; k <= 4; k++ {
		wantLocal(t, v, 70, k, num(k))
	}
	wantDefault(t, v, 70, num(10))
}

func TestLocals(t *testing.T) {
	v := vars.New()
	var want []int
	for n := 2; n < api.MaxSyms; n++ {
		want = append(want, n)
		v.SetLocal(api.MaxSyms+1-n, 7, none)
	}
	wantLocals(t, v, 7, want...)
	wantLocals(t, v, 6)
	wantLocals(t, v, 8)
	l := v.Locals(7)
	l[0] = 9
	_ = append(l[:2], 9)
	wantLocals(t, v, 7, want...)
	l = v.Locals(7)
	v.Drop(7)
	if !slices.Equal(l, want) {
		t.Error("a result has changed")
	}
}

func TestManyScopes(t *testing.T) {
	v := vars.New()
	for k := 1; k <= api.MaxScopes; k++ {
		v.SetLocal(70, k, num(k))
	}
	for k := 1; k <= api.MaxScopes; k++ {
		wantLocal(t, v, 70, k, num(k))
	}
	l := v.Values()
	if len(l) != 2+api.MaxScopes || !slices.IsSortedFunc(l[2:], func(a, b api.Word) int { return a.N - b.N }) {
		t.Error(len(l))
	}
}

func TestDrop(t *testing.T) {
	v := local(t)
	v.SetLocal(71, 3, num(6))
	v.SetLocal(70, 4, num(7))
	v.SetLocal(70, 2, num(8))
	ok(t, "Drop of another scope", v.Drop(4))
	wantScope(t, v, 3)
	wantNotLocal(t, v, 70, 4)
	wantLocals(t, v, 4)
	wantLocals(t, v, 3, 70, 71)
	ok(t, "Drop of the current scope", v.Drop(3))
	wantScope(t, v, 0)
	wantLocals(t, v, 3)
	wantGet(t, v, 70, num(1))
	wantVoid(t, v, 71)
	wantErr(t, "MakeLocal", v.MakeLocal(70), api.ErrState)
	ok(t, "Drop again", v.Drop(3))
	for _, k := range []int{1, api.MaxScopes} {
		v.SetScope(k)
		v.MakeLocal(70)
		ok(t, "Drop", v.Drop(k))
		wantScope(t, v, 0)
		wantNotLocal(t, v, 70, k)
	}
	wantLocal(t, v, 70, 2, num(8))
	v.SetScope(3) // a scope that was dropped is usable
	ok(t, "MakeLocal", v.MakeLocal(70))
	wantLocal(t, v, 70, 3, num(1))
	wantValues(t, v, num(1), num(8), num(1))
}
