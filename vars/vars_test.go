package vars_test

import (
	"testing"

	"copyist/api"
	"copyist/vars"
)

func TestNew(t *testing.T) {
	v := vars.New()
	for _, w := range []api.Word{symNil, symT} {
		wantGet(t, v, w.N, w)
		wantDefault(t, v, w.N, w)
		wantMarks(t, v, w.N, true, true)
	}
	for n := 2; n < api.MaxSyms; n++ {
		wantVoid(t, v, n)
		wantNoDefault(t, v, n)
		wantMarks(t, v, n, false, false)
	}
	wantValues(t, v)
	wantDepth(t, v, 0)
	wantScope(t, v, 0)
	for k := range api.MaxScopes + 1 {
		wantLocals(t, v, k)
	}
}

func TestExampleOfBinding(t *testing.T) {
	v := vars.New()
	ok(t, "Set", v.Set(70, num(1)))
	ok(t, "Bind", v.Bind(70, num(2)))
	wantGet(t, v, 70, num(2))
	ok(t, "Unbind", v.Unbind(0))
	wantGet(t, v, 70, num(1))
}

func TestExamplesOfScopes(t *testing.T) {
	v := vars.New()
	ok(t, "SetDefault", v.SetDefault(70, num(1)))
	ok(t, "SetScope", v.SetScope(3))
	ok(t, "MakeLocal", v.MakeLocal(70))
	ok(t, "Set", v.Set(70, num(5)))
	ok(t, "SetScope", v.SetScope(0))
	wantGet(t, v, 70, num(1))
	wantLocal(t, v, 70, 3, num(5))

	ok(t, "SetScope", v.SetScope(3))
	ok(t, "Bind", v.Bind(70, num(6)))
	ok(t, "KillLocal", v.KillLocal(70))
	ok(t, "Unbind", v.Unbind(0))
	wantGet(t, v, 70, num(1))
}

func TestExampleOfConstants(t *testing.T) {
	v := vars.New()
	wantErr(t, "Set", v.Set(0, num(1)), api.ErrConst)
	wantGet(t, v, 1, symT)
}

func TestSetAndClear(t *testing.T) {
	v := vars.New()
	words := []api.Word{num(7), none, symNil, {Kind: api.KindWindow, N: -3}, {Kind: 99, N: api.MinInt}}
	for _, n := range []int{2, 70, api.MaxSyms - 1} {
		for _, w := range words {
			ok(t, "Set", v.Set(n, w))
			wantGet(t, v, n, w)
			wantDefault(t, v, n, w)
			ok(t, "Clear", v.Clear(n))
			wantVoid(t, v, n)
			wantNoDefault(t, v, n)
			ok(t, "SetDefault", v.SetDefault(n, w))
			wantGet(t, v, n, w)
			wantDefault(t, v, n, w)
		}
		ok(t, "Clear", v.Clear(n))
		ok(t, "Clear of none", v.Clear(n))
		wantVoid(t, v, n)
	}
	wantValues(t, v)
}

func TestNeighbours(t *testing.T) {
	v := vars.New()
	for n := 2; n < api.MaxSyms; n++ {
		ok(t, "Set", v.Set(n, num(n)))
	}
	ok(t, "Clear", v.Clear(70))
	for n := 2; n < api.MaxSyms; n++ {
		if n == 70 {
			wantVoid(t, v, n)
			continue
		}
		wantGet(t, v, n, num(n))
	}
}

func TestMarks(t *testing.T) {
	v := vars.New()
	for _, n := range []int{2, api.MaxSyms - 2} {
		ok(t, "MarkSpecial", v.MarkSpecial(n))
		wantMarks(t, v, n, true, false)
		ok(t, "MarkConst", v.MarkConst(n+1))
		wantMarks(t, v, n+1, true, true)
		ok(t, "MarkSpecial of a constant", v.MarkSpecial(n+1))
		wantMarks(t, v, n+1, true, true)
	}
	wantMarks(t, v, 4, false, false)
	ok(t, "Set of a special variable", v.Set(2, num(1)))
	ok(t, "MarkConst of a special variable", v.MarkConst(2))
	wantMarks(t, v, 2, true, true)
	wantGet(t, v, 2, num(1))
	wantVoid(t, v, 3)
	ok(t, "MarkConst of nil", v.MarkConst(api.SymNil))
	ok(t, "MarkSpecial of t", v.MarkSpecial(api.SymT))
	wantMarks(t, v, api.SymT, true, true)
}

func TestUnknownVariables(t *testing.T) {
	v := vars.New()
	v.SetScope(3)
	for _, n := range unknown {
		wantVoid(t, v, n)
		wantNoDefault(t, v, n)
		wantMarks(t, v, n, false, false)
		wantNotLocal(t, v, n, 3)
		for name, call := range changes(v) {
			wantErr(t, name, call(n), api.ErrUnknown)
		}
		wantErr(t, "SetLocal without a scope", v.SetLocal(n, 0, num(1)), api.ErrUnknown)
		wantVoid(t, v, n)
		wantNotLocal(t, v, n, 3)
		wantMarks(t, v, n, false, false)
	}
	v.SetScope(0)
	for _, n := range unknown {
		wantErr(t, "MakeLocal without a scope", v.MakeLocal(n), api.ErrUnknown)
		wantErr(t, "KillLocal without a scope", v.KillLocal(n), api.ErrUnknown)
	}
	wantValues(t, v)
	wantLocals(t, v, 3)
	wantDepth(t, v, 0)
}

// changes is the methods that change something of a variable, by name.
func changes(v *vars.Vars) map[string]func(n int) api.Errno {
	return map[string]func(n int) api.Errno{
		"Set":         func(n int) api.Errno { return v.Set(n, num(9)) },
		"Clear":       v.Clear,
		"MarkSpecial": v.MarkSpecial,
		"MarkConst":   v.MarkConst,
		"Bind":        func(n int) api.Errno { return v.Bind(n, num(9)) },
		"MakeLocal":   v.MakeLocal,
		"KillLocal":   v.KillLocal,
		"SetLocal":    func(n int) api.Errno { return v.SetLocal(n, 3, num(9)) },
		"SetDefault":  func(n int) api.Errno { return v.SetDefault(n, num(9)) },
	}
}

func TestConstants(t *testing.T) {
	v := vars.New()
	v.Set(70, num(1))
	v.SetLocal(70, 4, num(2))
	v.MarkConst(70)
	v.MarkConst(71)
	v.SetScope(3)
	for _, n := range []int{api.SymNil, api.SymT, 70, 71} {
		for _, name := range []string{"Set", "Clear", "Bind", "MakeLocal", "SetLocal", "SetDefault"} {
			wantErr(t, name, changes(v)[name](n), api.ErrConst)
		}
		wantMarks(t, v, n, true, true)
		wantNotLocal(t, v, n, 3)
	}
	wantVoid(t, v, 71)
	wantLocal(t, v, 70, 4, num(2))
	wantValues(t, v, num(1), num(2))
	wantDepth(t, v, 0)
	v.SetScope(4)
	wantGet(t, v, 70, num(2))
	wantErr(t, "Set of a local constant", v.Set(70, num(3)), api.ErrConst)
	wantErr(t, "MakeLocal of a local constant", v.MakeLocal(70), api.ErrConst)
	wantGet(t, v, 70, num(2))
	ok(t, "KillLocal of a constant", v.KillLocal(70))
	wantGet(t, v, 70, num(1))
}

func TestConstantWhileBound(t *testing.T) {
	v := vars.New()
	v.Set(70, num(1))
	v.Bind(70, num(2))
	v.MarkConst(70)
	wantErr(t, "Bind", v.Bind(70, num(3)), api.ErrConst)
	ok(t, "Unbind", v.Unbind(0))
	wantGet(t, v, 70, num(1))
	wantMarks(t, v, 70, true, true)
}

func TestValues(t *testing.T) {
	v := vars.New()
	v.SetLocal(80, api.MaxScopes, num(8))
	v.SetLocal(90, 2, num(7))
	v.SetLocal(75, 10, num(5))
	v.SetLocal(75, 2, num(6))
	v.Set(90, num(4))
	v.Set(api.MaxSyms-1, num(3))
	v.Set(2, num(2))
	v.SetScope(2)
	v.MakeLocal(85) // without a value
	wantValues(t, v, num(2), num(4), num(3), num(6), num(7), num(5), num(8))

	v.Bind(90, num(11))            // records 7
	v.Bind(100, num(12))           // records no value
	v.Bind(2, num(13))             // records 2
	v.Bind(90, num(14))            // records 11
	v.Set(90, num(15))             // the cell of the binding, not what it has recorded
	v.SetScope(0)                  // changes no order
	v.Bind(90, num(16))            // records 4
	v.Bind(100, none)              // records 12, and a zero word is a value
	v.Drop(10)                     // a scope without recorded values
	v.SetLocal(80, 1, num(17))     // before all other scopes
	v.SetDefault(10, num(18))      // between others
	v.Clear(api.MaxSyms - 1)       // no value any more
	v.SetLocal(1000, 2, num(1000)) // the last one in its scope
	wantValues(t, v,
		num(13), num(18), num(16), none,
		num(17), num(6), num(15), num(1000), num(8),
		num(7), num(2), num(11), num(4), num(12))

	// What is recorded for a cell that does not exist any more is recorded still.
	v.Drop(2)
	wantValues(t, v, num(13), num(18), num(16), none, num(17), num(8), num(7), num(2), num(11), num(4), num(12))
	v.Unbind(2)
	wantValues(t, v, num(2), num(18), num(4), num(12), num(17), num(8), num(7))
	v.Unbind(0)
	wantValues(t, v, num(2), num(18), num(4), num(17), num(8))
}

func TestValuesAreCopies(t *testing.T) {
	v := vars.New()
	v.Set(70, num(1))
	l := v.Values()
	l[2] = num(2)
	_ = append(l[:1], num(3), num(4))
	wantValues(t, v, num(1))
	wantGet(t, v, 70, num(1))
	l = v.Values()
	v.Set(70, num(5))
	v.Set(60, num(6))
	if len(l) != 3 || l[2] != num(1) {
		t.Error(l)
	}
}

func TestCopy(t *testing.T) {
	v := vars.New()
	v.Set(70, num(1))
	v.SetScope(3)
	v.SetLocal(71, 3, num(2))
	v.SetLocal(72, 4, num(3))
	v.MarkSpecial(73)
	v.Bind(70, num(4))
	v.Bind(71, num(5))
	change := func(v *vars.Vars) {
		v.Unbind(1)
		v.Set(70, num(10))
		v.Set(71, num(11))
		v.Bind(74, num(12))
		v.Bind(75, num(13))
		v.MakeLocal(74)
		v.Drop(4)
		v.SetScope(5)
		v.MarkConst(73)
		v.MarkSpecial(74)
	}
	unchanged := func(v *vars.Vars) {
		t.Helper()
		wantScope(t, v, 3)
		wantDepth(t, v, 2)
		wantMarks(t, v, 73, true, false)
		wantMarks(t, v, 74, false, false)
		wantMarks(t, v, api.SymNil, true, true)
		wantLocals(t, v, 3, 71)
		wantLocals(t, v, 4, 72)
		wantGet(t, v, 70, num(4))
		wantGet(t, v, 71, num(5))
		wantValues(t, v, num(4), num(5), num(3), num(1), num(2))
	}
	o := copyOf(t, v)
	p := copyOf(t, o)
	unchanged(o)
	change(o)
	unchanged(v)
	change(v)
	unchanged(p)
	ok(t, "Unbind of a copy", p.Unbind(0))
	wantGet(t, p, 70, num(1))
	wantGet(t, p, 71, num(2))
	wantGet(t, v, 70, num(10))
	wantLocal(t, o, 71, 3, num(11))
}

func TestInvalid(t *testing.T) {
	for name, v := range invalid() {
		for _, n := range []int{0, 1, 70, -1, api.MaxSyms} {
			for what, call := range changes(v) {
				wantErr(t, name+" "+what, call(n), api.ErrNil)
			}
			wantErr(t, name+" SetLocal without a scope", v.SetLocal(n, 0, num(1)), api.ErrNil)
			wantErr(t, name+" Unbind", v.Unbind(n), api.ErrNil)
			wantErr(t, name+" SetScope", v.SetScope(n), api.ErrNil)
			wantErr(t, name+" Drop", v.Drop(n), api.ErrNil)
			wantVoid(t, v, n)
			wantNoDefault(t, v, n)
			wantMarks(t, v, n, false, false)
			wantNotLocal(t, v, n, 3)
			wantNotLocal(t, v, n, 0)
			wantLocals(t, v, n)
		}
		wantDepth(t, v, 0)
		wantScope(t, v, 0)
		if l := v.Values(); len(l) != 0 {
			t.Error(name, l)
		}
		wantErr(t, name+" Copy", v.Copy().Set(70, num(1)), api.ErrNil)
	}
}
