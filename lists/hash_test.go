package lists_test

import (
	"strings"
	"testing"

	"copyist/api"
	"copyist/lists"
)

const prime = 2147483647

func (d desk) wantHash(t *testing.T, what string, w api.Word, want int) {
	t.Helper()
	if n, e := lists.Hash(d.Heap, w); n != want || e != api.OK {
		t.Errorf("%s: Hash(%v): %d, %v instead of %d", what, w, n, e, want)
	}
}

func TestHashOfOtherWords(t *testing.T) {
	d := newDesk()
	for n, want := range map[int]int{
		0: 0, 5: 5, -1: prime - 1, -5: prime - 5, prime - 1: prime - 1, prime: 0, prime + 1: 1, -prime: 0, -prime - 1: prime - 1, 2 * prime: 0,
		api.MaxInt: 1<<30 - 1, api.MinInt: prime - 1<<30, 1<<63 - 1: 1, -1 << 63: prime - 2,
	} {
		d.wantHash(t, "integer", integer(n), want)
		for _, k := range []int{api.KindSym, api.KindPrim, api.KindCode, api.KindBuffer, api.KindMarker, api.KindOver, api.KindWindow, 11, 12} {
			d.wantHash(t, "other words", api.Word{Kind: k, N: n}, (want+31*k)%prime)
		}
		d.wantHash(t, "a negative kind", api.Word{Kind: -1, N: n}, (want+prime-31)%prime)
		d.wantHash(t, "a large kind", api.Word{Kind: prime + 2, N: n}, (want+62)%prime)
		d.wantHash(t, "the largest kind", api.Word{Kind: 1<<63 - 1, N: n}, (want+31)%prime)
		d.wantHash(t, "the least kind", api.Word{Kind: -1 << 63, N: n}, (want+prime-62)%prime)
		for _, k := range []int{api.KindCons, api.KindText, api.KindVec} {
			d.wantHash(t, "a dead word", api.Word{Kind: k, N: n}, (want+31*k)%prime)
		}
	}
	code := must(d.Code(api.Code{Bytes: []byte{1, 2}, Consts: numbers(3)}))
	d.wantHash(t, "code", code, 186+code.N)
}

func TestHashOfObjects(t *testing.T) {
	d := newDesk()
	for _, x := range []struct {
		in   string
		want int
	}{
		{"nil", 31}, {"t", 32}, {"5", 5}, {`""`, 3}, {`"a"`, 190}, {`"ab"`, 190*31 + 98}, {`"é"`, 93 + 233}, {`"😀"`, 93 + 0x1f600},
		{"(5)", 36}, {"(nil)", 62}, {"(1 2 3)", 30817}, {"(1 . 2)", 32}, {"(1 2 . 3)", 994}, {`(1 2 . "a")`, 994}, {"(1 2 . [3])", 994}, {"((1))", 31 + 32}, {"((1) 2)", 63*31 + 2},
		{"[]", 2}, {"[1]", 63}, {"[1 2 3]", (63*31+2)*31 + 3}, {"[(1) [2]]", (62+32)*31 + 64}, {`("a" [])`, (31+190)*31 + 2}, {"(-1)", 30}, {"(-40)", prime - 9},
	} {
		d.wantHash(t, x.in, d.read(x.in), x.want)
	}
	d.wantHash(t, "a list of dead words", d.dotted(dead(api.KindCons), dead(api.KindText)), 31+93+api.MaxObjects)
}

// polynomial returns what becomes of first by multiplying by 31 and adding each of the others.
func polynomial(first int, l ...int) int {
	for _, n := range l {
		first = (first*31 + n) % prime
	}
	return first
}

func repeated(n, many int) []int {
	var l []int
	for range many {
		l = append(l, n)
	}
	return l
}

func TestHashOfLongWords(t *testing.T) {
	d := newDesk()
	for _, n := range []int{1, 98, 99, 100, 101, 102, 150} {
		at := func(place, value int) []api.Word {
			l := make([]api.Word, 150)
			l[place] = integer(value)
			return l[:n]
		}
		counted := repeated(0, min(n, 100))
		counted[0] = 7
		d.wantHash(t, "a list", d.list(at(0, 7)...), polynomial(1, counted...))
		d.wantHash(t, "a dotted list", d.dotted(integer(5), at(0, 7)...), polynomial(1, counted...))
		d.wantHash(t, "a vector", d.vec(at(0, 7)...), polynomial(2, counted...))
		counted[0], counted[len(counted)-1] = 0, 7
		d.wantHash(t, "a list", d.list(at(len(counted)-1, 7)...), polynomial(1, counted...))
		d.wantHash(t, "a vector", d.vec(at(len(counted)-1, 7)...), polynomial(2, counted...))
		counted[len(counted)-1] = 0
		if n > 100 {
			d.wantHash(t, "a list with another element behind", d.list(at(100, 7)...), polynomial(1, counted...))
			d.wantHash(t, "a vector with another element behind", d.vec(at(100, 7)...), polynomial(2, counted...))
		}
	}
	for _, n := range []int{99, 100, 101, 1000, 5000, api.MaxChars} {
		d.wantHash(t, "a string", d.str(strings.Repeat("é", n-1)+"z"), polynomial(3, append(repeated(233, n-1), 'z')...))
	}
	d.wantHash(t, "a large vector", d.zeros(api.MaxChars, 99, 100, api.MaxChars-1), polynomial(2, append(repeated(0, 99), 1)...))
	d.wantHash(t, "a ring", d.ring(1, numbers(3)...), polynomial(1, func() []int {
		l := []int{0}
		for len(l) < 100 {
			l = append(l, 1, 2)
		}
		return l[:100]
	}()...))
}

func TestHashDepth(t *testing.T) {
	d := newDesk()
	for _, x := range []struct {
		name      string
		base      int
		innermost int // the hash of one whose elements are nested too deep
		level     func(w api.Word) api.Word
	}{
		{"lists", 31, 31 + 1, func(w api.Word) api.Word { return d.list(w) }},
		{"vectors", 62, 62 + 1, func(w api.Word) api.Word { return d.vec(w) }},
		{"second elements", (31 + 9) * 31, (31+1)*31 + 1, func(w api.Word) api.Word { return d.list(integer(9), w) }},
	} {
		for levels := range 10 {
			d.wantHash(t, x.name, nested(levels+1, integer(5), x.level), (levels+1)*x.base+5)
			d.wantHash(t, x.name, nested(levels+1, d.str("a"), x.level), (levels+1)*x.base+190)
		}
		for levels := 11; levels < 15; levels++ {
			d.wantHash(t, x.name, nested(levels, integer(5), x.level), 10*x.base+x.innermost)
			d.wantHash(t, x.name, nested(levels, d.str("a"), x.level), 10*x.base+x.innermost)
		}
		d.wantHash(t, x.name, nested(10, d.list(), x.level), 10*x.base+31)
		d.wantHash(t, x.name, nested(10, d.list(integer(5)), x.level), 10*x.base+31+1)
		d.wantHash(t, x.name, nested(10, d.vec(integer(5)), x.level), 10*x.base+62+1)
	}
	ring := d.cons(null, null)
	ok(d.SetCar(ring, ring))
	d.wantHash(t, "a ring of cars", ring, 11*31+1)
	v := d.vec(null)
	ok(d.SetAt(v, 0, v))
	d.wantHash(t, "a vector of itself", v, 11*62+1)
}

// TestHashOfManyWords has one word more than are visited: the vector, 100 elements, 9 elements of each.
func TestHashOfManyWords(t *testing.T) {
	d := newDesk()
	hash := func(last, other int) api.Word {
		var l []api.Word
		for i := range 100 {
			inner := make([]api.Word, 9)
			if i == 99 {
				inner[8], inner[7] = integer(last), integer(other)
			}
			if i%2 == 0 {
				l = append(l, d.vec(inner...))
			} else {
				l = append(l, d.list(inner...))
			}
		}
		return d.vec(l...)
	}
	want := func(last, other int) int {
		var l []int
		for i := range 100 {
			inner := repeated(0, 9)
			if i == 99 {
				inner[8], inner[7] = last, other
			}
			l = append(l, polynomial(2-i%2, inner...))
		}
		return polynomial(2, l...)
	}
	d.wantHash(t, "the last word is not visited", hash(7, 3), want(1, 3))
	d.wantHash(t, "the last word is not visited", hash(0, 5), want(1, 5))
	// Behind 99 others in a vector it is the word 101; of its elements, the list with index 89 has the words 992 to 1001.
	inner := repeated(polynomial(2, repeated(0, 9)...), 100)
	for i := 1; i < 100; i += 2 {
		inner[i] = polynomial(1, repeated(0, 9)...)
	}
	inner[89] = polynomial(1, append(repeated(0, 8), 1)...)
	copy(inner[90:], repeated(1, 10))
	outer := d.vec(append(make([]api.Word, 99), hash(7, 3))...)
	d.wantHash(t, "the last words are not visited", outer, polynomial(2, append(repeated(0, 99), polynomial(2, inner...))...))
}

// TestWordsThatAreTooDeepAreVisited has 101 words of which all but the first are nested too deep, ten times.
func TestWordsThatAreTooDeepAreVisited(t *testing.T) {
	d := newDesk()
	deep := nested(9, d.zeros(100), func(w api.Word) api.Word { return d.vec(w) }) // 9 + 1 + 100 words
	inner := polynomial(2, repeated(1, 100)...)
	for range 9 {
		inner = 62 + inner
	}
	for _, x := range []struct{ more, last int }{{8, 5}, {9, 1}, {10, 1}} { // 1 + 9*110 + more + 1 words
		l := []api.Word{}
		hashes := []int{}
		for range 9 {
			l, hashes = append(l, deep), append(hashes, inner)
		}
		for range x.more {
			l, hashes = append(l, integer(3)), append(hashes, 3)
		}
		if x.more == 10 {
			hashes[18] = 1
		}
		d.wantHash(t, "deep words", d.vec(append(l, integer(5))...), polynomial(2, append(hashes, x.last)...))
	}
}
