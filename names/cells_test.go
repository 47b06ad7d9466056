package names_test

import (
	"testing"

	"copyist/api"
	"copyist/names"
)

func TestFunc(t *testing.T) {
	x := names.New()
	words := []api.Word{none, five, {Kind: api.KindSym, N: 0}, {Kind: api.KindCode, N: -7}, {Kind: 99, N: 1}}
	for _, w := range words {
		wantErr(t, "SetFunc", x.SetFunc(api.SymCyclicFunction, w), api.OK)
		wantFunc(t, x, api.SymCyclicFunction, w, true)
	}
	wantFunc(t, x, api.SymBufferReadOnly, none, false)
	wantErr(t, "ClearFunc", x.ClearFunc(api.SymCyclicFunction), api.OK)
	wantFunc(t, x, api.SymCyclicFunction, none, false)
	wantErr(t, "ClearFunc again", x.ClearFunc(api.SymCyclicFunction), api.OK)
	wantFunc(t, x, api.SymCyclicFunction, none, false)
}

func TestFuncErrors(t *testing.T) {
	x := names.New()
	for n, want := range map[int]api.Errno{
		api.SymNil: api.ErrConst, api.SymT: api.ErrConst, api.SymQuote: api.OK,
		-1: api.ErrUnknown, api.FixedSyms: api.ErrUnknown, api.MaxInt: api.ErrUnknown, api.MinInt: api.ErrUnknown,
	} {
		wantErr(t, "SetFunc", x.SetFunc(n, five), want)
		if want != api.OK {
			wantFunc(t, x, n, none, false)
		}
		wantErr(t, "ClearFunc", x.ClearFunc(n), want)
	}
}

func TestProps(t *testing.T) {
	x := names.New()
	car, _ := x.Intern("car")
	for i, key := range []int{9, 7, car, 0, 8, 61} {
		wantErr(t, "SetProp", x.SetProp(car, key, api.Word{Kind: 3, N: i}), api.OK)
		wantProp(t, x, car, key, api.Word{Kind: 3, N: i}, true)
	}
	for _, key := range []int{1, 6, 10, 60, -1, car + 1} {
		wantProp(t, x, car, key, none, false)
	}
	wantErr(t, "SetProp of another value", x.SetProp(car, 8, none), api.OK)
	wantProp(t, x, car, 8, none, true)
	wantProps(t, x, car,
		api.Prop{Name: 0, Value: api.Word{Kind: 3, N: 3}}, api.Prop{Name: 7, Value: api.Word{Kind: 3, N: 1}},
		api.Prop{Name: 8, Value: none}, api.Prop{Name: 9, Value: api.Word{Kind: 3, N: 0}},
		api.Prop{Name: 61, Value: api.Word{Kind: 3, N: 5}}, api.Prop{Name: car, Value: api.Word{Kind: 3, N: 2}})
	wantProps(t, x, 61)
	wantFunc(t, x, car, none, false)
}

func TestPropsOfConstants(t *testing.T) {
	x := names.New()
	for _, n := range []int{api.SymNil, api.SymT} {
		wantErr(t, "SetProp", x.SetProp(n, n, five), api.OK)
		wantProp(t, x, n, n, five, true)
		wantProps(t, x, n, api.Prop{Name: n, Value: five})
	}
}

func TestPropErrors(t *testing.T) {
	x := names.New()
	for _, n := range []int{-1, api.FixedSyms, api.MaxInt, api.MinInt} {
		wantErr(t, "SetProp of no symbol", x.SetProp(n, 2, five), api.ErrUnknown)
		wantErr(t, "SetProp with no key", x.SetProp(2, n, five), api.ErrUnknown)
		wantErr(t, "SetProp with neither", x.SetProp(n, n, five), api.ErrUnknown)
		wantProp(t, x, n, 2, none, false)
		wantProp(t, x, 2, n, none, false)
	}
	wantProps(t, x, 2)
}

func TestManyProps(t *testing.T) {
	x := names.New()
	fill(t, x)
	var want []api.Prop
	for key := range api.MaxSyms {
		want = append(want, api.Prop{Name: key, Value: api.Word{N: -key}})
	}
	for key := api.MaxSyms - 1; key >= 0; key-- {
		x.SetProp(5, key, api.Word{N: -key})
	}
	wantProps(t, x, 5, want...)
}

func TestPropsAreCopies(t *testing.T) {
	x := names.New()
	x.SetProp(2, 3, five)
	x.SetProp(2, 4, six)
	l := x.Props(2)
	l[0] = api.Prop{Name: 40, Value: six}
	_ = append(l[:1], api.Prop{Name: 50})
	wantProps(t, x, 2, api.Prop{Name: 3, Value: five}, api.Prop{Name: 4, Value: six})
	l = x.Props(2)
	x.SetProp(2, 3, none)
	x.SetProp(2, 0, none)
	if l[0] != (api.Prop{Name: 3, Value: five}) || len(l) != 2 {
		t.Error(l)
	}
}

func TestCopy(t *testing.T) {
	x := names.New()
	car, _ := x.Intern("car")
	own, _ := x.Fresh("own")
	x.SetFunc(car, five)
	x.SetProp(car, 3, five)
	x.SetProp(car, 5, five)
	o := x.Copy()
	change := func(x *names.Table) {
		x.SetFunc(own, six)
		x.ClearFunc(car)
		x.SetProp(car, 3, six)
		x.SetProp(car, 4, six)
		x.SetProp(own, 3, six)
		x.Intern("new")
	}
	unchanged := func(x *names.Table) {
		t.Helper()
		wantFind(t, x, "car", car, true)
		wantName(t, x, own, "own", true)
		wantFind(t, x, "own", 0, false)
		wantFind(t, x, "new", 0, false)
		wantFunc(t, x, car, five, true)
		wantFunc(t, x, own, none, false)
		wantProps(t, x, car, api.Prop{Name: 3, Value: five}, api.Prop{Name: 5, Value: five})
		wantProps(t, x, own)
		if x.Many() != 64 || x.Interned(own) || !x.Interned(car) {
			t.Error(x.Many(), x.Interned(own), x.Interned(car))
		}
	}
	p := o.Copy()
	unchanged(o)
	change(o)
	unchanged(x)
	change(x)
	unchanged(p)
	n, e := p.Fresh("new")
	wantSym(t, "Fresh in a copy", n, e, 64, api.OK)
	wantName(t, x, 64, "new", true)
	if !x.Interned(64) || p.Interned(64) {
		t.Error("Interned")
	}
}
