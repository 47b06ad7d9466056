package lists_test

import (
	"cmp"
	"slices"
	"strings"

	"copyist/api"
)

// model is the objects of a heap, on which the calls are done as the chapter describes them.
type model struct {
	limit   int
	objects map[int]object
}

func (d desk) model() model { return model{d.Limit(), d.objects()} }

func (m model) is(w api.Word, kind int) bool {
	x, found := m.objects[w.N]
	return found && w.Kind == kind && x.kind == kind
}

func (m model) isCons(w api.Word) bool { return m.is(w, api.KindCons) }

func (m model) car(w api.Word) api.Word { return m.objects[w.N].words[0] }

func (m model) cdr(w api.Word) api.Word { return m.objects[w.N].words[1] }

// conses returns the first conses of a list, and the error that it has behind them.
func (m model) conses(w api.Word) ([]api.Word, api.Errno) {
	var l []api.Word
	for m.isCons(w) {
		if len(l) == api.MaxChars {
			return l, api.ErrLoop
		}
		l, w = append(l, w), m.cdr(w)
	}
	if w != null {
		return l, api.ErrType
	}
	return l, api.OK
}

func (m model) cars(conses []api.Word) []api.Word {
	var l []api.Word
	for _, w := range conses {
		l = append(l, m.car(w))
	}
	return l
}

// elements returns the elements of a proper list.
func (m model) elements(w api.Word) ([]api.Word, api.Errno) {
	conses, e := m.conses(w)
	if e != api.OK {
		return nil, e
	}
	return m.cars(conses), api.OK
}

func (m model) make(l []api.Word, end api.Word) (api.Word, api.Errno) {
	if m.limit-len(m.objects) < len(l) {
		return none, api.ErrFull
	}
	for i := len(l) - 1; i >= 0; i-- {
		n := 0
		for m.objects[n].kind != 0 {
			n++
		}
		m.objects[n] = object{kind: api.KindCons, words: []api.Word{l[i], end}}
		end = api.Word{Kind: api.KindCons, N: n}
	}
	return end, api.OK
}

// makeOf makes a list, unless there is an error already.
func (m model) makeOf(l []api.Word, e api.Errno, end api.Word) (api.Word, api.Errno) {
	if e != api.OK {
		return none, e
	}
	return m.make(l, end)
}

// pairs is comparisons that are made.
type pairs struct {
	model
	made int
}

func (p *pairs) compare(a, b api.Word, nested, moved int) (bool, api.Errno) {
	if nested > 200 {
		return false, api.ErrDepth
	}
	if p.made >= 200000 {
		return false, api.ErrFuel
	}
	if moved > 65536 {
		return false, api.ErrLoop
	}
	p.made++
	return a == b, api.OK
}

// equal goes along a list in a loop, as a list may be too long for recursion.
func (p *pairs) equal(a, b api.Word, nested int) (bool, api.Errno) {
	same, e := p.compare(a, b, nested, 0)
	for moved := 1; !same && e == api.OK && p.isCons(a) && p.isCons(b); moved++ {
		if same, e = p.equal(p.car(a), p.car(b), nested+1); !same || e != api.OK {
			return false, e
		}
		a, b = p.cdr(a), p.cdr(b)
		same, e = p.compare(a, b, nested, moved)
	}
	x, y := p.objects[a.N], p.objects[b.N]
	switch {
	case same || e != api.OK:
		return same, e
	case p.is(a, api.KindText) && p.is(b, api.KindText):
		return x.text == y.text, api.OK
	case p.is(a, api.KindVec) && p.is(b, api.KindVec) && len(x.words) == len(y.words):
		for i := range x.words {
			if same, e := p.equal(x.words[i], y.words[i], nested+1); !same || e != api.OK {
				return false, e
			}
		}
		return true, api.OK
	}
	return false, api.OK
}

// finder compares words with x: with equal, or by themselves.
type finder struct {
	pairs
	x       api.Word
	byEqual bool
}

func (f *finder) matches(w api.Word) (bool, api.Errno) {
	if f.byEqual {
		return f.equal(f.x, w, 0)
	}
	return f.x == w, api.OK
}

// member is Memq and Member.
func (m model) member(x, w api.Word, byEqual bool) (api.Word, api.Errno) {
	f := &finder{pairs{m, 0}, x, byEqual}
	conses, e := m.conses(w)
	for _, cons := range conses {
		if is, e := f.matches(m.car(cons)); is || e != api.OK {
			return orError(cons, e)
		}
	}
	return orError(null, e)
}

// assoc is Assq and Assoc.
func (m model) assoc(x, w api.Word, byEqual bool) (api.Word, api.Errno) {
	f := &finder{pairs{m, 0}, x, byEqual}
	conses, e := m.conses(w)
	for _, y := range m.cars(conses) {
		if !m.isCons(y) {
			continue
		}
		if is, e := f.matches(m.car(y)); is || e != api.OK {
			return orError(y, e)
		}
	}
	return orError(null, e)
}

func orError(w api.Word, e api.Errno) (api.Word, api.Errno) {
	if e != api.OK {
		return none, e
	}
	return w, api.OK
}

// others returns the conses of a list whose cars do not match.
func (m model) others(x, w api.Word, byEqual bool) ([]api.Word, api.Errno) {
	f := &finder{pairs{m, 0}, x, byEqual}
	conses, e := m.conses(w)
	if e != api.OK {
		return nil, e
	}
	var kept []api.Word
	for _, cons := range conses {
		is, e := f.matches(m.car(cons))
		if e != api.OK {
			return nil, e
		}
		if !is {
			kept = append(kept, cons)
		}
	}
	return kept, api.OK
}

// delete is Delq and Delete.
func (m model) delete(x, w api.Word, byEqual bool) (api.Word, api.Errno) {
	kept, e := m.others(x, w, byEqual)
	end := null
	for _, cons := range slices.Backward(kept) {
		m.objects[cons.N] = object{kind: api.KindCons, words: []api.Word{m.car(cons), end}}
		end = cons
	}
	return orError(end, e)
}

func (m model) remove(x, w api.Word) (api.Word, api.Errno) {
	kept, e := m.others(x, w, true)
	return m.makeOf(m.cars(kept), e, null)
}

func (m model) reverse(w api.Word) (api.Word, api.Errno) {
	l, e := m.elements(w)
	var reversed []api.Word
	for _, x := range l {
		reversed = append([]api.Word{x}, reversed...)
	}
	return m.makeOf(reversed, e, null)
}

func (m model) tail(w api.Word, n int) (api.Word, api.Errno) {
	if n < 0 || n > 65536 {
		return none, api.ErrRange
	}
	for range n {
		if m.isCons(w) {
			w = m.cdr(w)
		} else if w != null {
			return none, api.ErrType
		}
	}
	return w, api.OK
}

func (m model) nth(w api.Word, n int) (api.Word, api.Errno) {
	w, e := m.tail(w, n)
	switch {
	case e != api.OK:
		return none, e
	case m.isCons(w):
		return m.car(w), api.OK
	case w == null:
		return null, api.OK
	}
	return none, api.ErrType
}

func (m model) compare(a, b api.Word) (int, api.Errno) {
	switch {
	case a.Kind == api.KindInt && b.Kind == api.KindInt:
		return cmp.Compare(a.N, b.N), api.OK
	case m.is(a, api.KindText) && m.is(b, api.KindText):
		return slices.Compare([]rune(m.objects[a.N].text), []rune(m.objects[b.N].text)), api.OK
	}
	return 0, api.ErrType
}

// sorted inserts one element after the other.
func (m model) sorted(w api.Word) (api.Word, api.Errno) {
	l, e := m.elements(w)
	var done []api.Word
	for _, x := range l {
		if _, faulty := m.compare(l[0], x); faulty != api.OK {
			return none, faulty
		}
		i := len(done)
		for i > 0 {
			if order, _ := m.compare(x, done[i-1]); order >= 0 {
				break
			}
			i--
		}
		done = slices.Insert(done, i, x)
	}
	return m.makeOf(done, e, null)
}

func (m model) get(w, key api.Word) (api.Word, bool) {
	conses, _ := m.conses(w)
	l := m.cars(conses)
	for len(l) >= 2 {
		if l[0] == key {
			return l[1], true
		}
		l = l[2:]
	}
	return none, false
}

func (m model) put(w, key, value api.Word) (api.Word, api.Errno) {
	l, e := m.elements(w)
	for i := 0; i < len(l); i += 2 {
		if l[i] == key && i+1 < len(l) {
			l[i+1] = value
			return m.makeOf(l, e, null)
		}
	}
	return m.makeOf(append(l, key, value), e, null)
}

// visitor counts the words that are visited for a hash.
type visitor struct {
	model
	visited int
}

func (v *visitor) hash(w api.Word, nested int) uint64 {
	before := v.visited
	v.visited++
	if nested > 10 || before >= 1000 {
		return 1
	}
	first, parts := uint64(1), []api.Word(nil)
	switch {
	case v.isCons(w):
		conses, _ := v.conses(w)
		parts = v.cars(conses)
	case v.is(w, api.KindVec):
		first, parts = 2, v.objects[w.N].words
	case v.is(w, api.KindText):
		first = 3
		for _, c := range strings.Split(v.objects[w.N].text, "") {
			first = (first*31 + uint64([]rune(c)[0])) % prime
		}
		return first
	default:
		return (31*modulo(w.Kind) + modulo(w.N)) % prime
	}
	for i, x := range parts {
		if i < 100 {
			first = (first*31 + v.hash(x, nested+1)) % prime
		}
	}
	return first
}

func modulo(n int) uint64 {
	if n < 0 {
		return (prime - uint64(-(n+1))%prime - 1) % prime
	}
	return uint64(n) % prime
}
