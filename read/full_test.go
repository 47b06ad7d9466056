package read_test

import (
	"slices"
	"strings"
	"testing"

	"copyist/api"
	"copyist/heap"
	"copyist/names"
	"copyist/read"
)

// made is an object that a text creates, where its form begins, and how many of the text's new symbols there are by then.
type made struct {
	object  string
	at      int
	symbols int
}

// checkFull reads s on heaps of all sizes that are too small for it.
func checkFull(t *testing.T, s string, symbols []string, objects []made) {
	t.Helper()
	var want []string
	for n, x := range objects {
		d := newDesk(max(n, 1))
		if n == 0 {
			d.h.Cons(none, none)
		}
		wantFault(t, d, s, 0, api.ErrFull, x.at)
		if n > 0 {
			wantObjects(t, d, want...)
		}
		wantSymbols(t, d, symbols[:x.symbols]...)
		want = append(want, x.object)
	}
	d := newDesk(len(objects))
	if _, _, f := read.Read(d.h, d.t, s, 0); f.Err != api.OK {
		t.Error(s, f)
	}
	wantObjects(t, d, want...)
	wantSymbols(t, d, symbols...)
}

func TestFullHeap(t *testing.T) {
	checkFull(t, " (é b c)", []string{"é", "b", "c"}, []made{
		{"(<c>)", 1, 3}, {"(<b> <c>)", 1, 3}, {"(<é> <b> <c>)", 1, 3},
	})
	checkFull(t, "(a b . c)", []string{"a", "b", "c"}, []made{
		{"(<b> . <c>)", 0, 3}, {"(<a> <b> . <c>)", 0, 3},
	})
	checkFull(t, ";(\n[a b]", []string{"a", "b"}, []made{{"[<a> <b>]", 3, 2}})
	checkFull(t, " []", nil, []made{{"[]", 1, 0}})
	checkFull(t, ` ""`, nil, []made{{`""`, 1, 0}})
	for _, x := range openings()[2:] {
		one := x.before + "<a>" + x.after
		checkFull(t, "\n"+x.open+" a", []string{"a"}, []made{{"(<a>)", 1, 1}, {one, 1, 1}})
		checkFull(t, x.open+x.open+"a", []string{"a"}, []made{
			{"(<a>)", len(x.open), 1}, {one, len(x.open), 1}, {"(" + one + ")", 0, 1}, {x.before + one + x.after, 0, 1},
		})
	}
	checkFull(t, `('a "s" [1 (b . c)] . d)`, []string{"a", "b", "c", "d"}, []made{
		{"(<a>)", 1, 1},
		{"(<quote> <a>)", 1, 1},
		{`"s"`, 4, 1},
		{"(<b> . <c>)", 11, 3},
		{"[1 (<b> . <c>)]", 8, 3},
		{"([1 (<b> . <c>)] . <d>)", 0, 4},
		{`("s" [1 (<b> . <c>)] . <d>)`, 0, 4},
		{`((<quote> <a>) "s" [1 (<b> . <c>)] . <d>)`, 0, 4},
	})
	checkFull(t, `["é" ,@(x . "y") ""]`, []string{"x"}, []made{
		{`"é"`, 1, 0},
		{`"y"`, 12, 1},
		{`(<x> . "y")`, 7, 1},
		{`((<x> . "y"))`, 5, 1},
		{`(<,@> (<x> . "y"))`, 5, 1},
		{`""`, 17, 1},
		{`["é" (<,@> (<x> . "y")) ""]`, 0, 1},
	})
}

func TestNumbers(t *testing.T) {
	d := newDesk(10)
	var texts []api.Word
	for range 5 {
		w, _ := d.h.Text("x")
		texts = append(texts, w)
	}
	d.h.Collect([]api.Word{texts[0], texts[2], texts[4]})
	w, _, _ := read.Read(d.h, d.t, `("a" 'b)`, 0) // the free numbers are 1, 3, 5 and so on
	if w != (api.Word{Kind: api.KindCons, N: 7}) {
		t.Error(w)
	}
	wantObjects(t, d, `"x"`, `"a"`, `"x"`, "(<b>)", `"x"`, "(<quote> <b>)", "((<quote> <b>))", `("a" (<quote> <b>))`)
}

// TestFormsWithoutObjects reads what needs no room.
func TestFormsWithoutObjects(t *testing.T) {
	d := newDesk(1)
	d.h.Cons(none, none)
	for _, s := range []string{"()", "1", "?a", "##", "a", "nil"} {
		if _, _, f := read.Read(d.h, d.t, s, 0); f.Err != api.OK {
			t.Error(s, f)
		}
	}
	wantAll(t, d, "() 1 ?a ## a", "<nil>", "1", "97", "<>", "<a>")
	wantAllFault(t, d, "a 1 '() (b", api.ErrFull, 4)
	wantSymbols(t, d, "", "a")
}

// fullStore returns a heap whose objects have all the size that they may have, but for some room.
func fullStore(room int) *heap.Heap {
	h, _ := heap.New(100)
	for h.Room() >= api.MaxChars+room {
		h.Text(strings.Repeat("a", api.MaxChars))
	}
	h.Text(strings.Repeat("a", h.Room()-room))
	return h
}

func TestFullStore(t *testing.T) {
	d := desk{fullStore(2), names.New()}
	many := d.h.Many()
	wantFault(t, d, `('a "éaa")`, 0, api.ErrFull, 4)
	wantFault(t, d, ` ('b [1 2 3])`, 0, api.ErrFull, 5)
	if d.h.Many() != many+4 {
		t.Error(d.h.Many(), many)
	}
	wantSymbols(t, d, "a", "b")
	wantFault(t, d, ` ["éb" 1]`, 0, api.ErrFull, 1)
	wantFault(t, d, `("c"`, 0, api.ErrFull, 1)
	wantForm(t, d, "(a \"\" [] \"\\\n\")", 0, `(<a> "" [] "")`, 14)
	d = desk{fullStore(3), names.New()}
	wantFault(t, d, ` ["\x1f600\" 1 2]`, 0, api.ErrFull, 1)
	wantForm(t, d, "[1 é]", 0, "[1 <é>]", 5)
	wantFault(t, d, " [1]", 0, api.ErrFull, 1)
}

// fullTable returns a table that has room for n symbols.
func fullTable(n int) *names.Table {
	x := names.New()
	for i := 0; x.Many() < api.MaxSyms-n; i++ {
		x.Intern("filler-" + string(rune(0x4e00+i)))
	}
	return x
}

// lastSymbols returns the names of the last n symbols.
func (d desk) lastSymbols(n int) []string {
	var l []string
	for i := d.t.Many() - n; i < d.t.Many(); i++ {
		s, _ := d.t.Name(i)
		l = append(l, s)
	}
	return l
}

func TestFullTable(t *testing.T) {
	const s = `('é "s" [## (\( . d) nil filler-一] . e)`
	symbols := []string{"é", "", "(", "d", "e"}
	objects := []string{"(<é>)", "(<quote> <é>)", `"s"`, "(<(> . <d>)", "[<> (<(> . <d>) <nil> <filler-一>]"}
	for n, x := range []struct{ at, objects int }{{2, 0}, {9, 3}, {13, 3}, {18, 3}, {37, 5}} {
		h, _ := heap.New(100)
		d := desk{h, fullTable(n)}
		wantFault(t, d, s, 0, api.ErrFull, x.at)
		wantObjects(t, d, objects[:x.objects]...)
		if l := d.lastSymbols(n); !slices.Equal(l, symbols[:n]) || d.t.Many() != api.MaxSyms {
			t.Error(l, d.t.Many())
		}
		wantAllFault(t, d, `1 nil \\é `+s, api.ErrFull, 6)
		wantForm(t, d, "(nil t ,1 #'car . filler-一)", 6, "(<,> 1)", 9)
	}
	h, _ := heap.New(100)
	d := desk{h, fullTable(5)}
	if _, _, f := read.Read(d.h, d.t, s, 0); f.Err != api.OK {
		t.Error(f)
	}
	if l := d.lastSymbols(5); !slices.Equal(l, symbols) {
		t.Error(l)
	}
	wantForm(t, d, "(##)", 1, "<>", 3)
	wantFault(t, d, " x", 0, api.ErrFull, 1)
	wantFault(t, d, " "+strings.Repeat("x", api.MaxName+1), 0, api.ErrLong, 1)
}

// TestAfterFaults checks what an error leaves behind.
func TestAfterFaults(t *testing.T) {
	for _, x := range []struct {
		in               string
		e                api.Errno
		at               int
		symbols, objects []string
	}{
		{`(a 'b "c" ]`, api.ErrForm, 10, []string{"a", "b"}, []string{"(<b>)", "(<quote> <b>)", `"c"`}},
		{`(a (b) c`, api.ErrForm, 8, []string{"a", "b", "c"}, []string{"(<b>)"}},
		{"(a . b c)", api.ErrForm, 7, []string{"a", "b"}, nil},
		{"(a . (b) ##)", api.ErrForm, 9, []string{"a", "b"}, []string{"(<b>)"}},
		{"[a [b] . c]", api.ErrForm, 7, []string{"a", "b"}, []string{"[<b>]"}},
		{"[a (b)", api.ErrForm, 6, []string{"a", "b"}, []string{"(<b>)"}},
		{`("a" "b\q" c)`, api.ErrForm, 7, nil, []string{`"a"`}},
		{`(a b\`, api.ErrForm, 5, []string{"a"}, nil},
		{`(a ?bc)`, api.ErrForm, 5, []string{"a"}, nil},
		{"(a ##b)", api.ErrForm, 3, []string{"a"}, nil},
		{"''(a", api.ErrForm, 4, []string{"a"}, nil},
		{"[1 a 2305843009213693952 b]", api.ErrOver, 5, []string{"a"}, nil},
		{`("a" ` + strings.Repeat("b", api.MaxName+1), api.ErrLong, 5, nil, []string{`"a"`}},
		{"(a [b] " + strings.Repeat("'", api.MaxNest) + "c)", api.ErrDepth, 6 + api.MaxNest, []string{"a", "b"}, []string{"[<b>]"}},
	} {
		d := newDesk(100)
		wantFault(t, d, x.in, 0, x.e, x.at)
		wantObjects(t, d, x.objects...)
		wantSymbols(t, d, x.symbols...)
		d = newDesk(100)
		wantAllFault(t, d, "é '() "+x.in, x.e, 6+x.at)
		wantObjects(t, d, append([]string{"(<nil>)", "(<quote> <nil>)"}, x.objects...)...)
		wantSymbols(t, d, append([]string{"é"}, x.symbols...)...)
	}
}
