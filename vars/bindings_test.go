package vars_test

import (
	"testing"

	"copyist/api"
	"copyist/vars"
)

func TestBindings(t *testing.T) {
	v := vars.New()
	v.Set(70, num(1))
	for i := 2; i <= 5; i++ {
		ok(t, "Bind", v.Bind(70, num(i)))
		wantGet(t, v, 70, num(i))
		wantDefault(t, v, 70, num(i))
		wantDepth(t, v, i-1)
	}
	for _, n := range []int{2, api.MaxSyms - 1} { // without a value
		ok(t, "Bind", v.Bind(n, none))
		wantGet(t, v, n, none)
	}
	wantMarks(t, v, 70, false, false)
	ok(t, "Unbind of none", v.Unbind(6))
	wantDepth(t, v, 6)
	wantGet(t, v, 2, none)
	ok(t, "Unbind of one", v.Unbind(5))
	wantVoid(t, v, api.MaxSyms-1)
	wantGet(t, v, 2, none)
	wantDepth(t, v, 5)
	ok(t, "Unbind of three", v.Unbind(2))
	wantVoid(t, v, 2)
	wantGet(t, v, 70, num(3))
	wantDepth(t, v, 2)
	ok(t, "Bind again", v.Bind(70, num(8)))
	ok(t, "Unbind of all", v.Unbind(0))
	wantGet(t, v, 70, num(1))
	wantDepth(t, v, 0)
	ok(t, "Unbind without bindings", v.Unbind(0))
}

func TestUnbindErrors(t *testing.T) {
	v := vars.New()
	wantErr(t, "Unbind", v.Unbind(1), api.ErrRange)
	v.Bind(70, num(1))
	v.Bind(70, num(2))
	for _, depth := range []int{-1, 3, api.MinInt, api.MaxInt} {
		wantErr(t, "Unbind", v.Unbind(depth), api.ErrRange)
	}
	wantDepth(t, v, 2)
	wantGet(t, v, 70, num(2))
}

func TestManyBindings(t *testing.T) {
	v := vars.New()
	v.Set(70, num(-1))
	for i := range api.MaxBinds {
		ok(t, "Bind", v.Bind(70, num(i)))
	}
	wantDepth(t, v, api.MaxBinds)
	wantErr(t, "Bind", v.Bind(70, num(7)), api.ErrDepth)
	wantErr(t, "Bind of a constant", v.Bind(api.SymNil, num(7)), api.ErrConst)
	wantErr(t, "Bind of no variable", v.Bind(-1, num(7)), api.ErrUnknown)
	wantErr(t, "Unbind", v.Unbind(api.MaxBinds+1), api.ErrRange)
	wantDepth(t, v, api.MaxBinds)
	wantGet(t, v, 70, num(api.MaxBinds-1))
	ok(t, "Unbind", v.Unbind(api.MaxBinds))
	wantGet(t, v, 70, num(api.MaxBinds-1))
	ok(t, "Unbind", v.Unbind(api.MaxBinds-1))
	wantGet(t, v, 70, num(api.MaxBinds-2))
	ok(t, "Bind", v.Bind(70, num(7)))
	wantErr(t, "Bind", v.Bind(71, num(7)), api.ErrDepth)
	wantVoid(t, v, 71)
	ok(t, "Unbind", v.Unbind(1))
	wantGet(t, v, 70, num(0))
	ok(t, "Unbind", v.Unbind(0))
	wantGet(t, v, 70, num(-1))
}

// P4.5: what was assigned in the meantime does not matter.
func TestAssignedWhileBound(t *testing.T) {
	for name, call := range map[string]func(v *vars.Vars) api.Errno{
		"Set":        func(v *vars.Vars) api.Errno { return v.Set(70, num(9)) },
		"SetDefault": func(v *vars.Vars) api.Errno { return v.SetDefault(70, num(9)) },
		"Clear":      func(v *vars.Vars) api.Errno { return v.Clear(70) },
		"Bind":       func(v *vars.Vars) api.Errno { return v.Bind(70, num(9)) },
	} {
		v := vars.New()
		v.Bind(70, num(1))
		v.Bind(70, num(2))
		ok(t, name, call(v))
		ok(t, "Unbind", v.Unbind(1))
		wantGet(t, v, 70, num(1))
		ok(t, name, call(v))
		ok(t, "Unbind", v.Unbind(0))
		wantVoid(t, v, 70)
		wantNoDefault(t, v, 70)
		wantValues(t, v)
	}
}

// local returns variables of which 70 has the default value 1 and is local in the current scope 3 with the value 5.
func local(t *testing.T) *vars.Vars {
	t.Helper()
	v := vars.New()
	ok(t, "SetDefault", v.SetDefault(70, num(1)))
	ok(t, "SetLocal", v.SetLocal(70, 3, num(5)))
	ok(t, "SetScope", v.SetScope(3))
	return v
}

func TestBindingOfLocalCell(t *testing.T) {
	v := local(t)
	ok(t, "Bind", v.Bind(70, num(6)))
	wantLocal(t, v, 70, 3, num(6))
	wantDefault(t, v, 70, num(1))
	v.SetScope(4)
	wantGet(t, v, 70, num(1))
	v.SetLocal(70, 4, num(7))
	ok(t, "Bind in another scope", v.Bind(70, num(8)))
	ok(t, "Bind of a default cell", v.Bind(71, num(9)))
	v.SetScope(0)
	ok(t, "Bind without a scope", v.Bind(70, num(2)))
	wantDefault(t, v, 70, num(2))
	wantDepth(t, v, 4)

	v.SetScope(4)
	ok(t, "Unbind", v.Unbind(3))
	wantGet(t, v, 70, num(8))
	wantDefault(t, v, 70, num(1))
	v.SetScope(3)
	v.SetLocal(71, 3, num(10)) // not the recorded cell
	ok(t, "Unbind", v.Unbind(2))
	wantLocal(t, v, 71, 3, num(10))
	wantNoDefault(t, v, 71)
	v.SetScope(5)
	ok(t, "Unbind", v.Unbind(0))
	wantLocal(t, v, 70, 3, num(5))
	wantLocal(t, v, 70, 4, num(7))
	wantNotLocal(t, v, 70, 5)
	wantDefault(t, v, 70, num(1))
	wantScope(t, v, 5)
}

func TestBindingOfLocalCellWithoutValue(t *testing.T) {
	v := local(t)
	v.Clear(70)
	ok(t, "Bind", v.Bind(70, num(6)))
	wantLocal(t, v, 70, 3, num(6))
	ok(t, "Unbind", v.Unbind(0))
	wantVoidLocal(t, v, 70, 3)
	wantVoid(t, v, 70)
	wantDefault(t, v, 70, num(1))
}

func TestBindingOfDefaultCellMadeLocal(t *testing.T) {
	v := vars.New()
	v.SetScope(3)
	v.SetDefault(70, num(1))
	v.Bind(70, num(2))
	v.MakeLocal(70)
	wantLocal(t, v, 70, 3, num(2))
	v.Set(70, num(3))
	ok(t, "Unbind", v.Unbind(0))
	wantLocal(t, v, 70, 3, num(3))
	wantDefault(t, v, 70, num(1))
}

func TestBindingOfLostCell(t *testing.T) {
	for name, lose := range map[string]func(v *vars.Vars) api.Errno{
		"KillLocal": func(v *vars.Vars) api.Errno { return v.KillLocal(70) },
		"Drop":      func(v *vars.Vars) api.Errno { return v.Drop(3) },
	} {
		v := local(t)
		v.Bind(70, num(6))
		v.Bind(70, num(7))
		ok(t, name, lose(v))
		wantGet(t, v, 70, num(1))
		v.SetLocal(71, 3, num(2)) // the scope has another cell
		ok(t, "Unbind", v.Unbind(0))
		wantDepth(t, v, 0)
		wantGet(t, v, 70, num(1))
		wantNotLocal(t, v, 70, 3)
		wantLocals(t, v, 3, 71)
		wantValues(t, v, num(1), num(2))
	}
}

func TestBindingOfCellMadeAnew(t *testing.T) {
	for name, remake := range map[string]func(v *vars.Vars){
		"KillLocal": func(v *vars.Vars) { v.KillLocal(70); v.MakeLocal(70) },
		"Drop":      func(v *vars.Vars) { v.Drop(3); v.SetLocal(70, 3, num(8)) },
	} {
		v := local(t)
		v.Bind(70, num(6))
		remake(v)
		v.SetScope(0)
		ok(t, name, v.Unbind(0))
		wantLocal(t, v, 70, 3, num(5))
		wantDefault(t, v, 70, num(1))
	}
}

func TestLostBetweenBindings(t *testing.T) {
	v := local(t)
	v.Bind(70, num(6)) // the local cell
	v.KillLocal(70)
	v.Bind(70, num(7)) // the default cell
	v.SetLocal(70, 3, num(8))
	v.Bind(70, num(9)) // the new local cell
	v.Drop(3)
	ok(t, "Unbind", v.Unbind(2))
	wantNotLocal(t, v, 70, 3)
	wantDefault(t, v, 70, num(7))
	ok(t, "Unbind", v.Unbind(1))
	wantDefault(t, v, 70, num(1))
	ok(t, "Unbind", v.Unbind(0))
	wantNotLocal(t, v, 70, 3)
	wantDefault(t, v, 70, num(1))
}
