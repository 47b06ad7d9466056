package vars_test

import (
	"slices"
	"testing"

	"copyist/api"
	"copyist/vars"
)

var (
	none    = api.Word{}
	symNil  = api.Word{Kind: api.KindSym, N: api.SymNil}
	symT    = api.Word{Kind: api.KindSym, N: api.SymT}
	unknown = []int{-1, api.MaxSyms, api.MinInt, api.MaxInt}
	noScope = []int{0, -1, api.MaxScopes + 1, api.MinInt, api.MaxInt} // what is no scope
)

func num(n int) api.Word { return api.Word{Kind: api.KindInt, N: n} }

// invalid is the variables that neither New nor Copy has returned.
func invalid() map[string]*vars.Vars {
	return map[string]*vars.Vars{"nil": nil, "zero": {}}
}

// copyOf returns a copy that must be valid.
func copyOf(t *testing.T, v *vars.Vars) *vars.Vars {
	t.Helper()
	o := v.Copy()
	if o == nil || o == v {
		t.Fatal("Copy")
	}
	return o
}

func ok(t *testing.T, what string, e api.Errno) {
	t.Helper()
	wantErr(t, what, e, api.OK)
}

func wantErr(t *testing.T, what string, e, want api.Errno) {
	t.Helper()
	if e != want {
		t.Errorf("%s: %v instead of %v", what, e, want)
	}
}

func wantWord(t *testing.T, what string, w api.Word, found bool, want api.Word, wantFound bool) {
	t.Helper()
	if w != want || found != wantFound {
		t.Errorf("%s: %v, %v instead of %v, %v", what, w, found, want, wantFound)
	}
}

func wantGet(t *testing.T, v *vars.Vars, n int, want api.Word) {
	t.Helper()
	w, found := v.Get(n)
	wantWord(t, "Get", w, found, want, true)
}

func wantVoid(t *testing.T, v *vars.Vars, n int) {
	t.Helper()
	w, found := v.Get(n)
	wantWord(t, "Get", w, found, none, false)
}

func wantDefault(t *testing.T, v *vars.Vars, n int, want api.Word) {
	t.Helper()
	w, found := v.Default(n)
	wantWord(t, "Default", w, found, want, true)
}

func wantNoDefault(t *testing.T, v *vars.Vars, n int) {
	t.Helper()
	w, found := v.Default(n)
	wantWord(t, "Default", w, found, none, false)
}

// wantLocal checks that n is local in scope k with that value.
func wantLocal(t *testing.T, v *vars.Vars, n, k int, want api.Word) {
	t.Helper()
	w, found := v.Local(n, k)
	wantWord(t, "Local", w, found, want, true)
	wantIsLocal(t, v, n, k, true)
}

// wantVoidLocal checks that n is local in scope k without a value.
func wantVoidLocal(t *testing.T, v *vars.Vars, n, k int) {
	t.Helper()
	w, found := v.Local(n, k)
	wantWord(t, "Local", w, found, none, false)
	wantIsLocal(t, v, n, k, true)
}

func wantNotLocal(t *testing.T, v *vars.Vars, n, k int) {
	t.Helper()
	w, found := v.Local(n, k)
	wantWord(t, "Local", w, found, none, false)
	wantIsLocal(t, v, n, k, false)
}

func wantIsLocal(t *testing.T, v *vars.Vars, n, k int, want bool) {
	t.Helper()
	if v.IsLocal(n, k) != want {
		t.Errorf("IsLocal(%d, %d) is %v", n, k, !want)
	}
}

func wantMarks(t *testing.T, v *vars.Vars, n int, special, constant bool) {
	t.Helper()
	if v.Special(n) != special || v.Const(n) != constant {
		t.Errorf("marks of %d: %v, %v instead of %v, %v", n, v.Special(n), v.Const(n), special, constant)
	}
}

func wantDepth(t *testing.T, v *vars.Vars, want int) {
	t.Helper()
	if v.Depth() != want {
		t.Errorf("Depth: %d instead of %d", v.Depth(), want)
	}
}

func wantScope(t *testing.T, v *vars.Vars, want int) {
	t.Helper()
	if v.Scope() != want {
		t.Errorf("Scope: %d instead of %d", v.Scope(), want)
	}
}

func wantLocals(t *testing.T, v *vars.Vars, k int, want ...int) {
	t.Helper()
	if l := v.Locals(k); !slices.Equal(l, want) {
		t.Errorf("Locals(%d): %v instead of %v", k, l, want)
	}
}

// wantValues checks the values that follow those of nil and t.
func wantValues(t *testing.T, v *vars.Vars, want ...api.Word) {
	t.Helper()
	if l := v.Values(); !slices.Equal(l, append([]api.Word{symNil, symT}, want...)) {
		t.Errorf("Values: %v instead of nil, t, %v", l, want)
	}
}
