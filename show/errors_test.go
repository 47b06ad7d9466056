package show_test

import (
	"testing"

	"copyist/api"
)

// objectKinds is the kinds of the objects of a heap.
var objectKinds = []int{api.KindCons, api.KindText, api.KindVec, api.KindCode}

func TestDeadObjectsAndUnknownKinds(t *testing.T) {
	d := newDesk()
	live := []api.Word{d.cons(lispNil, lispNil), d.str(""), d.vec(), must(d.h.Code(api.Code{}))}
	for _, kind := range objectKinds {
		for _, w := range live {
			if kind != w.Kind {
				d.wantError(t, api.Word{Kind: kind, N: w.N}, api.ErrType)
			}
		}
		for _, n := range []int{4, -1, api.MaxObjects - 1, api.MaxObjects, 1<<63 - 1, -1 << 63} {
			d.wantError(t, api.Word{Kind: kind, N: n}, api.ErrType)
		}
	}
	for _, kind := range []int{-1, 11, 12, 1000, 1<<63 - 1, -1 << 63} {
		d.wantError(t, api.Word{Kind: kind}, api.ErrType)
		d.wantError(t, api.Word{Kind: kind, N: 1}, api.ErrType)
	}
	d.h.Collect(nil)
	for _, w := range live {
		d.wantError(t, w, api.ErrType)
	}
}

func TestUnknownSymbols(t *testing.T) {
	d := newDesk()
	for _, n := range []int{-1, api.FixedSyms, 999, api.MaxSyms, 1<<63 - 1, -1 << 63} {
		d.wantError(t, symbol(n), api.ErrUnknown)
		d.wantError(t, api.Word{Kind: api.KindPrim, N: n}, api.ErrUnknown)
	}
	d.interned("x")
	d.wantTexts(t, symbol(api.FixedSyms), "x", "x")
	d.wantError(t, symbol(api.FixedSyms+1), api.ErrUnknown)
}

// TestFirstError checks that of two errors the left one is returned.
func TestFirstError(t *testing.T) {
	d := newDesk()
	unknown, noPrim := symbol(-1), api.Word{Kind: api.KindPrim, N: -1}
	deep := integer(1)
	for range api.MaxNest + 1 {
		deep = d.vec(deep)
	}
	long := d.pad(api.MaxChars+1-2, false)
	errors := []struct {
		w api.Word
		e api.Errno
	}{
		{dead(api.KindCons), api.ErrType}, {dead(api.KindText), api.ErrType}, {api.Word{Kind: 12}, api.ErrType},
		{unknown, api.ErrUnknown}, {noPrim, api.ErrUnknown}, {deep, api.ErrDepth}, {d.vec(long), api.ErrLong},
	}
	one := integer(1)
	for _, x := range errors {
		d.wantError(t, d.list(x.w), x.e)
		d.wantError(t, d.dotted(x.w, one), x.e)
		d.wantError(t, d.vec(one, x.w), x.e)
		for n := range prefixes() {
			q := symbol(n)
			d.wantError(t, d.list(q, x.w), x.e)
			d.wantError(t, d.list(q, d.list(q, x.w)), x.e)
			d.wantError(t, d.list(q, x.w, one), x.e)
			d.wantError(t, d.dotted(x.w, q, one), x.e)
			d.wantError(t, d.dotted(x.w, q), x.e)
		}
		for _, y := range errors {
			d.wantError(t, d.cons(x.w, y.w), x.e)
			d.wantError(t, d.list(x.w, y.w), x.e)
			d.wantError(t, d.list(one, d.list(one, x.w), y.w), x.e)
			d.wantError(t, d.dotted(y.w, one, x.w), x.e)
			d.wantError(t, d.vec(x.w, y.w), x.e)
			d.wantError(t, d.vec(d.list(symbol(api.SymQuote), x.w), y.w), x.e)
			for _, escape := range both {
				d.wantAllError(t, escape, x.e, x.w, y.w)
				d.wantAllError(t, escape, x.e, one, x.w, one, y.w)
			}
		}
	}
}
