package read_test

import (
	"math/rand"
	"slices"
	"strconv"
	"strings"
	"testing"

	"copyist/api"
	"copyist/read"
)

// tree is a form: a cons, a vector, or otherwise an atom as it is shown.
type tree struct {
	car, cdr *tree
	vector   bool
	elements []*tree
	atom     string
}

func leaf(s string) *tree { return &tree{atom: s} }

func (x *tree) shown() string {
	if x.vector {
		var parts []string
		for _, y := range x.elements {
			parts = append(parts, y.shown())
		}
		return shownVector(parts)
	}
	if x.car == nil {
		return x.atom
	}
	var parts []string
	for ; x.car != nil; x = x.cdr {
		parts = append(parts, x.car.shown())
	}
	return shownList(parts, x.shown())
}

// author writes random forms, and notes what reading them must create.
type author struct {
	*rand.Rand
	text    []rune
	tight   bool // a delimiter must follow
	symbols []string
	objects []made
}

func (a *author) write(s string) {
	a.text = append(a.text, []rune(s)...)
	a.tight = false
}

func (a *author) pick(l ...string) string { return l[a.Intn(len(l))] }

// create notes an object of the form that begins at a position.
func (a *author) create(at int, x *tree) *tree {
	a.objects = append(a.objects, made{x.shown(), at, len(a.symbols)})
	return x
}

// chain notes the conses of a list.
func (a *author) chain(at int, parts []*tree, last *tree) *tree {
	for _, x := range slices.Backward(parts) {
		last = a.create(at, &tree{car: x, cdr: last})
	}
	return last
}

// gap writes blanks and comments, at least one where it is needed.
func (a *author) gap() {
	n := a.Intn(3)
	if a.tight {
		n++
	}
	for range n {
		a.write(a.pick(" ", " ", "\n", "\t", "\f", "\r", ";\n", "; (a \"é\\\n"))
	}
}

// forms writes up to three forms, with gaps between and after them.
func (a *author) forms(depth int) []*tree {
	a.gap()
	var l []*tree
	for range a.Intn(4) {
		l = append(l, a.form(depth))
		a.gap()
	}
	return l
}

// form writes a form in which at most depth others are open.
func (a *author) form(depth int) *tree {
	at := len(a.text)
	kind := a.Intn(9)
	if depth == 0 {
		kind = 8
	}
	switch kind {
	case 0, 1:
		a.write("(")
		parts := a.forms(depth - 1)
		last := leaf("<nil>")
		if len(parts) > 0 && a.Intn(3) == 0 {
			a.gap()
			a.write(".")
			a.tight = true
			a.gap()
			last = a.form(depth - 1)
			a.gap()
		}
		a.write(")")
		return a.chain(at, parts, last)
	case 2, 3:
		a.write("[")
		l := a.forms(depth - 1)
		a.write("]")
		return a.create(at, &tree{vector: true, elements: l})
	case 4, 5:
		prefix := [][2]string{{"'", "quote"}, {"`", "`"}, {",", ","}, {",@", ",@"}, {"#'", "function"}}[a.Intn(5)]
		a.write(prefix[0])
		if a.Intn(3) == 0 {
			a.gap()
		}
		x := a.form(depth - 1)
		return a.chain(at, []*tree{leaf("<" + prefix[1] + ">"), x}, leaf("<nil>"))
	}
	return a.atom(at)
}

func (a *author) atom(at int) *tree {
	if a.Intn(4) == 0 {
		return a.create(at, leaf(a.quotation()))
	}
	s := [](func() string){a.integer, a.symbol, a.character}[a.Intn(3)]()
	a.tight = true
	return leaf(s)
}

func (a *author) integer() string {
	n := []int{0, a.Intn(10), a.Intn(1000), a.Int() % api.MaxInt, -a.Int() % api.MaxInt, api.MinInt, api.MaxInt}[a.Intn(7)]
	s := strconv.Itoa(n)
	zeros := strings.Repeat("0", a.Intn(3))
	if n < 0 {
		a.write("-" + zeros + s[1:])
	} else {
		a.write(a.pick("", "+") + zeros + s)
	}
	return s
}

func (a *author) symbol() string {
	s := ""
	if a.Intn(10) == 0 {
		a.write("##")
	} else {
		s = a.pick("a", "b", "é", "+-", "1x", "..", ".1", "")
		a.write(s)
		for first := s == ""; first || a.Intn(3) > 0; first = false {
			c := a.pick("a", "b", "é", "-", "一", "?", "#", ".", "@", "1", "(", ")", "[", " ", ";", "\"", "'", ",", "\\", "\n")
			s += c
			if first || a.Intn(3) == 0 || strings.Contains("()[];\"',\\ \n", c) {
				a.write("\\")
			}
			a.write(c)
		}
	}
	if !slices.Contains(a.symbols, s) && s != "," { // the comma is a fixed symbol
		a.symbols = append(a.symbols, s)
	}
	return "<" + s + ">"
}

func (a *author) character() string {
	a.write("?")
	modifiers := 0
	for a.Intn(3) == 0 {
		n := a.Intn(3)
		a.write([]string{`\S-`, `\C-`, `\M-`}[n])
		modifiers |= 1 << (25 + n)
	}
	c := []struct {
		in       string
		out, ctl int
	}{
		{"a", 'a', 1}, {"Z", 'Z', 26}, {"?", '?', 127}, {"@", '@', 0}, {`\\`, '\\', 28}, {`\n`, 10, ctrl + 10}, {`\s`, 32, ctrl + 32}, {`\d`, 127, ctrl + 127},
		{"(", '(', ctrl + '('}, {`\;`, ';', ctrl + ';'}, {";", ';', ctrl + ';'}, {"\"", '"', ctrl + '"'}, {"é", 0xe9, ctrl + 0xe9}, {`\é`, 0xe9, ctrl + 0xe9}, {"1", '1', ctrl + '1'},
	}[a.Intn(15)]
	a.write(c.in)
	if modifiers&ctrl == 0 {
		return strconv.Itoa(c.out + modifiers)
	}
	return strconv.Itoa(c.ctl + modifiers - ctrl)
}

func (a *author) quotation() string {
	out := ""
	a.write("\"")
	for a.Intn(5) > 0 {
		c := [][2]string{
			{"a", "a"}, {"é", "é"}, {"(", "("}, {";", ";"}, {"\n", "\n"}, {"\U0001f600", "\U0001f600"}, {`\n`, "\n"}, {`\t`, "\t"}, {`\e`, "\x1b"},
			{`\\`, `\`}, {`\"`, `"`}, {`\x41\`, "A"}, {`\x0000e9\`, "é"}, {`\x10FFff\`, "\U0010ffff"}, {"\\\n", ""},
		}[a.Intn(15)]
		a.write(c[0])
		out += c[1]
	}
	a.write("\"")
	return "\"" + out + "\""
}

func newAuthor(seed int) *author { return &author{Rand: rand.New(rand.NewSource(int64(seed)))} }

// TestRandomForms compares forms, their ends, and the order of what is created, on heaps of all sizes.
func TestRandomForms(t *testing.T) {
	for seed := range 1000 {
		a := newAuthor(seed)
		a.gap()
		x := a.form(a.Intn(6))
		s := string(a.text)
		d := newDesk(1000)
		w, end, f := read.Read(d.h, d.t, s, 0)
		if f != (api.Fault{}) || d.shown(w) != x.shown() || strings.TrimSpace(string(a.text[end:])) != "" {
			t.Errorf("%q: %s, %d, %v instead of %s", s, d.shown(w), end, f, x.shown())
		}
		if len(a.objects) > 0 {
			checkFull(t, s, a.symbols, a.objects)
		}
		if t.Failed() {
			t.Fatal(seed, strconv.Quote(s))
		}
	}
}

// TestCutForms checks that a list that is cut is never complete, and where it is said to end: at its end, or with a # that needed more, a dot that now stands alone, or the \ of a modifier without its hyphen.
func TestCutForms(t *testing.T) {
	for seed := range 300 {
		a := newAuthor(seed)
		a.write("(")
		a.forms(3)
		for n := 1; n < len(a.text); n++ {
			s := string(a.text[:n])
			d := newDesk(1000)
			w, end, f := read.Read(d.h, d.t, s, 0)
			early := strings.HasSuffix(s, "#") && f.At == n-1 || strings.HasSuffix(s, ".") && f.At == n-1
			for _, x := range []string{`\C`, `\M`, `\S`} {
				early = early || strings.HasSuffix(s, x) && f.At == n-2
			}
			if f.Err != api.ErrForm || f.At != n && !early || w != none || end != 0 {
				t.Fatalf("%d, %q: %v, %d, %v", seed, s, w, end, f)
			}
		}
	}
}

// noise returns a random text, of which little is well-formed.
func noise(r *rand.Rand) string {
	pieces := []string{
		"(", ")", "[", "]", "(", ")", " ", " ", "\n", ";", "'", "`", ",", ",@", "#'", "##", "#", "\"", "\\", "?", ".", " . ", "a", "b", "é", "1", "-", "+",
		`\C-`, `\M-`, `\S-`, `\n`, `\x41\`, "\\\n", "@", "x", "C", "\x00", "一",
	}
	s := ""
	for range r.Intn(12) {
		s += pieces[r.Intn(len(pieces))]
	}
	return s
}

// randomText returns several forms, or noise.
func randomText(seed int) string {
	a := newAuthor(seed)
	if a.Intn(2) == 0 {
		return noise(a.Rand)
	}
	a.forms(3)
	if a.Intn(2) == 0 {
		a.write(noise(a.Rand))
	}
	return string(a.text)
}

// TestAllIsRepeatedRead checks that All returns the forms that repeated calls of Read return, and creates the same objects and symbols.
func TestAllIsRepeatedRead(t *testing.T) {
	for seed := range 3000 {
		s := randomText(seed)
		d, e := newDesk(20), newDesk(20)
		all, fault := read.All(d.h, d.t, s)
		var l []api.Word
		w, end, f := read.Read(e.h, e.t, s, 0)
		for f.Err == api.OK {
			l = append(l, w)
			w, end, f = read.Read(e.h, e.t, s, end)
		}
		if f == (api.Fault{Err: api.ErrEnd, At: length(s)}) {
			f = api.Fault{}
		} else {
			l = nil
		}
		if !slices.Equal(all, l) || f != fault {
			t.Fatalf("%q: %v, %v instead of %v, %v", s, all, fault, l, f)
		}
		if !slices.Equal(d.objects(), e.objects()) || !slices.Equal(d.symbols(), e.symbols()) {
			t.Fatalf("%q: %q, %q instead of %q, %q", s, d.objects(), d.symbols(), e.objects(), e.symbols())
		}
	}
}

// TestWhatFollows checks that a form does not depend on what follows a delimiter after it.
func TestWhatFollows(t *testing.T) {
	delimiters := []string{"(", ")", "[", "]", "\"", "'", "`", ",", ";", " ", "\t", "\n", "\f", "\r"}
	for seed := range 400 {
		s := []rune(randomText(seed))
		r := rand.New(rand.NewSource(int64(seed)))
		for at := range s {
			d := newDesk(1000)
			w, end, f := read.Read(d.h, d.t, string(s), at)
			if f.Err != api.OK {
				continue
			}
			e := newDesk(1000)
			other := string(s[:end]) + delimiters[r.Intn(len(delimiters))] + noise(r)
			w2, end2, f2 := read.Read(e.h, e.t, other, at)
			if w2 != w || end2 != end || f2 != f || d.shown(w) != e.shown(w) {
				t.Fatalf("%q from %d: %s, %d; %q: %s, %d, %v", string(s), at, d.shown(w), end, other, e.shown(w2), end2, f2)
			}
			wantForm(t, newDesk(1000), string(s[:end]), at, d.shown(w), end)
		}
	}
}
