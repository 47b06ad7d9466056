package names_test

import (
	"maps"
	"math/rand"
	"slices"
	"testing"

	"copyist/api"
	"copyist/names"
)

// entry is a symbol of a model.
type entry struct {
	name     string
	interned bool
	function *api.Word
	props    map[int]api.Word
}

// model is a table as the chapter describes it: its symbols in order.
type model []entry

func newModel() model {
	var m model
	for n := range api.FixedSyms {
		m = append(m, entry{name: fixed[n], interned: true, props: map[int]api.Word{}})
	}
	return m
}

func (m model) copy() model {
	o := slices.Clone(m)
	for n := range o {
		o[n].props = maps.Clone(o[n].props)
	}
	return o
}

func (m model) find(s string) (int, bool) {
	n := slices.IndexFunc(m, func(e entry) bool { return e.interned && e.name == s })
	return max(n, 0), n >= 0
}

func (m model) has(n int) bool { return n >= 0 && n < len(m) }

// step does the same random thing to both.
func step(t *testing.T, r *rand.Rand, x *names.Table, m model) model {
	t.Helper()
	s := string(rune('a' + r.Intn(8)))
	n, key := r.Intn(len(m)+2)-1, r.Intn(len(m)+2)-1
	w := api.Word{Kind: r.Intn(12), N: r.Intn(100)}
	known := func(e api.Errno, bad ...int) api.Errno {
		for _, n := range bad {
			if !m.has(n) {
				return api.ErrUnknown
			}
		}
		return e
	}
	constant := api.OK
	if n == api.SymNil || n == api.SymT {
		constant = api.ErrConst
	}
	switch r.Intn(6) {
	case 0:
		want, found := m.find(s)
		if !found {
			want = len(m)
			m = append(m, entry{name: s, interned: true, props: map[int]api.Word{}})
		}
		n, e := x.Intern(s)
		wantSym(t, "Intern", n, e, want, api.OK)
	case 1:
		m = append(m, entry{name: s, props: map[int]api.Word{}})
		n, e := x.Fresh(s)
		wantSym(t, "Fresh", n, e, len(m)-1, api.OK)
	case 2:
		want := known(constant, n)
		wantErr(t, "SetFunc", x.SetFunc(n, w), want)
		if want == api.OK {
			m[n].function = &w
		}
	case 3:
		want := known(constant, n)
		wantErr(t, "ClearFunc", x.ClearFunc(n), want)
		if want == api.OK {
			m[n].function = nil
		}
	default:
		want := known(api.OK, n, key)
		wantErr(t, "SetProp", x.SetProp(n, key, w), want)
		if want == api.OK {
			m[n].props[key] = w
		}
	}
	return m
}

// compare checks everything that the table tells.
func compare(t *testing.T, x *names.Table, m model) {
	t.Helper()
	if x.Many() != len(m) {
		t.Fatal(x.Many(), len(m))
	}
	for n, e := range m {
		wantName(t, x, n, e.name, true)
		if x.Interned(n) != e.interned {
			t.Errorf("Interned(%d): %v", n, x.Interned(n))
		}
		want, found := m.find(e.name)
		wantFind(t, x, e.name, want, found)
		if e.function == nil {
			wantFunc(t, x, n, none, false)
		} else {
			wantFunc(t, x, n, *e.function, true)
		}
		var props []api.Prop
		for key := range m {
			w, found := e.props[key]
			wantProp(t, x, n, key, w, found)
			if found {
				props = append(props, api.Prop{Name: key, Value: w})
			}
		}
		wantProps(t, x, n, props...)
	}
}

func TestModel(t *testing.T) {
	for seed := range int64(20) {
		r := rand.New(rand.NewSource(seed))
		x, m := names.New(), newModel()
		for range 5 {
			o, before := x.Copy(), m.copy()
			for range 60 {
				m = step(t, r, x, m)
			}
			compare(t, x, m)
			compare(t, o, before)
			if r.Intn(2) == 0 {
				x, m = o, before
			}
		}
		if t.Failed() {
			t.Fatal("seed", seed)
		}
	}
}
