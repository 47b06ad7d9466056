package vars_test

import (
	"maps"
	"math/rand"
	"slices"
	"testing"

	"copyist/api"
	"copyist/vars"
)

// place names a cell: variable n, local in scope k, or its default cell if k is 0.
type place struct{ k, n int }

// content is what a cell contains: a value, or none.
type content struct {
	word api.Word
	set  bool
}

type bound struct {
	place
	content
}

// model is variables as the chapter describes them.
type model struct {
	cells             map[place]content // the local ones, and the default ones with values
	special, constant map[int]bool
	scope             int
	bounds            []bound
}

func newModel() *model {
	return &model{
		cells:    map[place]content{{0, 0}: {symNil, true}, {0, 1}: {symT, true}},
		special:  map[int]bool{0: true, 1: true},
		constant: map[int]bool{0: true, 1: true},
	}
}

func (m *model) copy() *model {
	return &model{maps.Clone(m.cells), maps.Clone(m.special), maps.Clone(m.constant), m.scope, slices.Clone(m.bounds)}
}

func (m *model) local(n, k int) bool {
	_, found := m.cells[place{k, n}]
	return found && k > 0
}

func (m *model) place(n int) place {
	if m.local(n, m.scope) {
		return place{m.scope, n}
	}
	return place{0, n}
}

func (m *model) store(p place, c content) {
	if p.k == 0 && !c.set {
		delete(m.cells, p)
		return
	}
	m.cells[p] = c
}

func (m *model) unbind(depth int) {
	for len(m.bounds) > depth {
		b := m.bounds[len(m.bounds)-1]
		m.bounds = m.bounds[:len(m.bounds)-1]
		if b.k == 0 || m.local(b.n, b.k) {
			m.store(b.place, b.content)
		}
	}
}

func (m *model) drop(k int) {
	maps.DeleteFunc(m.cells, func(p place, _ content) bool { return p.k == k })
	if m.scope == k {
		m.scope = 0
	}
}

func (m *model) values() []api.Word {
	ps := slices.SortedFunc(maps.Keys(m.cells), func(a, b place) int {
		return (a.k-b.k)*api.MaxSyms + a.n - b.n
	})
	var l []api.Word
	add := func(c content) {
		if c.set {
			l = append(l, c.word)
		}
	}
	for _, p := range ps {
		add(m.cells[p])
	}
	for _, b := range m.bounds {
		add(b.content)
	}
	return l
}

const (
	modelVars   = 6
	modelScopes = 4
)

// errors returns the first error that applies to variable n.
func (m *model) errors(n int, constant bool, others ...func() api.Errno) api.Errno {
	if n < 0 {
		return api.ErrUnknown
	}
	if constant && m.constant[n] {
		return api.ErrConst
	}
	for _, f := range others {
		if e := f(); e != api.OK {
			return e
		}
	}
	return api.OK
}

func (m *model) noScope() api.Errno {
	if m.scope == 0 {
		return api.ErrState
	}
	return api.OK
}

// step does the same random thing to both.
func step(t *testing.T, r *rand.Rand, v *vars.Vars, m *model) {
	t.Helper()
	n, k := r.Intn(modelVars+1)-1, 1+r.Intn(modelScopes)
	c := content{api.Word{Kind: r.Intn(11), N: r.Intn(100)}, true}
	do := func(what string, e, want api.Errno, effect func()) {
		t.Helper()
		wantErr(t, what, e, want)
		if want == api.OK {
			effect()
		}
	}
	switch r.Intn(14) {
	case 0, 1:
		do("Set", v.Set(n, c.word), m.errors(n, true), func() { m.store(m.place(n), c) })
	case 2:
		do("Clear", v.Clear(n), m.errors(n, true), func() { m.store(m.place(n), content{}) })
	case 3:
		do("SetDefault", v.SetDefault(n, c.word), m.errors(n, true), func() { m.store(place{0, n}, c) })
	case 4, 5, 6:
		do("Bind", v.Bind(n, c.word), m.errors(n, true), func() {
			p := m.place(n)
			m.bounds = append(m.bounds, bound{p, m.cells[p]})
			m.store(p, c)
		})
	case 7:
		depth := r.Intn(len(m.bounds) + 1)
		do("Unbind", v.Unbind(depth), api.OK, func() { m.unbind(depth) })
	case 8, 9:
		do("SetScope", v.SetScope(k-1), api.OK, func() { m.scope = k - 1 })
	case 10:
		do("MakeLocal", v.MakeLocal(n), m.errors(n, true, m.noScope), func() {
			if !m.local(n, m.scope) {
				m.store(place{m.scope, n}, m.cells[place{0, n}])
			}
		})
	case 11:
		do("KillLocal", v.KillLocal(n), m.errors(n, false, m.noScope), func() { delete(m.cells, place{m.scope, n}) })
	case 12:
		do("SetLocal", v.SetLocal(n, k, c.word), m.errors(n, true), func() { m.store(place{k, n}, c) })
	default:
		rare(r, n, k, v, m, do)
	}
}

// rare does what would leave little of the model if it were done often.
func rare(r *rand.Rand, n, k int, v *vars.Vars, m *model, do func(string, api.Errno, api.Errno, func())) {
	switch r.Intn(8) {
	case 0:
		do("MarkConst", v.MarkConst(n), m.errors(n, false), func() { m.special[n], m.constant[n] = true, true })
	case 1, 2:
		do("MarkSpecial", v.MarkSpecial(n), m.errors(n, false), func() { m.special[n] = true })
	default:
		do("Drop", v.Drop(k), api.OK, func() { m.drop(k) })
	}
}

// compare checks everything that the variables tell.
func compare(t *testing.T, v *vars.Vars, m *model) {
	t.Helper()
	wantScope(t, v, m.scope)
	wantDepth(t, v, len(m.bounds))
	for n := range modelVars {
		w, found := v.Get(n)
		c := m.cells[m.place(n)]
		wantWord(t, "Get", w, found, c.word, c.set)
		w, found = v.Default(n)
		c = m.cells[place{0, n}]
		wantWord(t, "Default", w, found, c.word, c.set)
		wantMarks(t, v, n, m.special[n], m.constant[n])
		for k := 1; k <= modelScopes; k++ {
			c := m.cells[place{k, n}]
			w, found = v.Local(n, k)
			wantWord(t, "Local", w, found, c.word, c.set)
			wantIsLocal(t, v, n, k, m.local(n, k))
		}
	}
	for k := 1; k <= modelScopes; k++ {
		var want []int
		for n := range modelVars {
			if m.local(n, k) {
				want = append(want, n)
			}
		}
		wantLocals(t, v, k, want...)
	}
	if l := v.Values(); !slices.Equal(l, m.values()) {
		t.Errorf("Values: %v instead of %v", l, m.values())
	}
}

func TestModel(t *testing.T) {
	for seed := range int64(200) {
		r := rand.New(rand.NewSource(seed))
		v, m := vars.New(), newModel()
		for range 5 {
			o, before := copyOf(t, v), m.copy()
			for range 40 {
				step(t, r, v, m)
				compare(t, v, m)
			}
			compare(t, o, before)
			if r.Intn(2) == 0 {
				v, m = o, before
			}
		}
		if t.Failed() {
			t.Fatal("seed", seed)
		}
	}
}
