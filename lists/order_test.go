package lists_test

import (
	"math/rand"
	"slices"
	"strings"
	"testing"

	"copyist/api"
	"copyist/lists"
)

func (d desk) wantLess(t *testing.T, a, b api.Word, want bool) {
	t.Helper()
	if less, e := lists.Less(d.Heap, a, b); less != want || e != api.OK {
		t.Errorf("Less(%s, %s): %v, %v", d.shown(a), d.shown(b), less, e)
	}
}

func TestLess(t *testing.T) {
	d := newDesk()
	ascending := []int{-1 << 63, -1<<63 + 1, api.MinInt - 1, api.MinInt, -1000, -1, 0, 1, 2, 10, 1000, api.MaxInt, api.MaxInt + 1, 1<<63 - 1}
	for i, x := range ascending {
		for j, y := range ascending {
			d.wantLess(t, integer(x), integer(y), i < j)
		}
	}
	texts := []string{"", "\x00", "\x00\x00", "\n", " ", "A", "Z", "a", "aA", "aa", "aaa", "ab", "aé", "b", "ba", "\u007f", "\u0080", "é", "éa", "\u07ff", "\u0800", "\ud7ff", "\ue000", "\uffff", "\U00010000", "\U0001f600", "\U0010ffff", "\U0010ffffa"}
	for i, x := range texts {
		for j, y := range texts {
			d.wantLess(t, d.str(x), d.str(y), i < j)
		}
	}
	long := strings.Repeat("é", api.MaxChars-1)
	d.wantLess(t, d.str(long), d.str(long+"\x00"), true)
	d.wantLess(t, d.str(long+"a"), d.str(long+"b"), true)
	d.wantLess(t, d.str(long+"b"), d.str(long+"a"), false)
	a := d.str("a")
	d.wantLess(t, a, a, false)
}

func TestLessOfOthers(t *testing.T) {
	d := newDesk()
	one, a := integer(1), d.str("a")
	for _, x := range []api.Word{null, symbol(api.SymT), d.list(one), d.vec(one), {Kind: api.KindPrim, N: 1}, must(d.Code(api.Code{})), {Kind: api.KindBuffer}, {Kind: api.KindMarker}, {Kind: api.KindOver}, {Kind: api.KindWindow}, {Kind: -1}, {Kind: 11}, dead(api.KindText), dead(api.KindCons), {Kind: api.KindText, N: -1}} {
		for _, y := range []api.Word{one, a, null, x, dead(api.KindText)} {
			less, e := lists.Less(d.Heap, x, y)
			wantErr(t, "Less", less, e, api.ErrType)
			less, e = lists.Less(d.Heap, y, x)
			wantErr(t, "Less", less, e, api.ErrType)
		}
		w, e := lists.Sorted(d.Heap, d.list(x))
		wantErr(t, "Sorted of one", w, e, api.ErrType)
		for _, l := range [][]api.Word{{one, x}, {x, one}, {a, x}, {x, a}, {x, x}, {one, one, x, one}, {a, a, a, x}} {
			had := d.Many() + len(l)
			w, e := lists.Sorted(d.Heap, d.list(l...))
			wantErr(t, "Sorted", w, e, api.ErrType)
			if d.Many() != had {
				t.Error("Sorted creates something")
			}
		}
	}
	for _, l := range [][]api.Word{{one, a}, {a, one}, {one, integer(2), a}, {a, a, one}} {
		w, e := lists.Sorted(d.Heap, d.list(l...))
		wantErr(t, "Sorted of integers and strings", w, e, api.ErrType)
	}
	less, e := lists.Less(d.Heap, one, a)
	wantErr(t, "Less", less, e, api.ErrType)
	less, e = lists.Less(d.Heap, a, one)
	wantErr(t, "Less", less, e, api.ErrType)
}

func TestSorted(t *testing.T) {
	d := newDesk()
	for _, x := range []struct{ in, want string }{
		{"nil", "nil"}, {"(1)", "(1)"}, {`("a")`, `("a")`}, {"(2 1)", "(1 2)"}, {"(1 2)", "(1 2)"}, {"(3 -1 2 -1 10 0)", "(-1 -1 0 2 3 10)"},
		{`("b" "a" "ab")`, `("a" "ab" "b")`}, {`("b" "" "B" "aé" "ab" "")`, `("" "" "B" "ab" "aé" "b")`},
	} {
		w := d.read(x.in)
		got, e := lists.Sorted(d.Heap, w)
		d.wantShown(t, "Sorted", got, e, x.want)
		if got == w && w != null {
			t.Error("Sorted makes no new list")
		}
		d.wantShown(t, "the list", w, api.OK, x.in)
	}
	w, e := lists.Sorted(d.Heap, d.read(`(2 "a")`))
	wantErr(t, "Sorted", w, e, api.ErrType)
}

// TestSortedTypeBeforeFull checks that ErrType comes before ErrFull.
func TestSortedTypeBeforeFull(t *testing.T) {
	d := newDeskOf(20)
	l, m := d.list(integer(2), d.str("a")), d.list(integer(2))
	d.fill(0)
	w, e := lists.Sorted(d.Heap, l)
	wantErr(t, "Sorted", w, e, api.ErrType)
	w, e = lists.Sorted(d.Heap, m)
	wantErr(t, "Sorted", w, e, api.ErrFull)
}

// TestSortedIsStable sorts many equal strings, which are other objects.
func TestSortedIsStable(t *testing.T) {
	for seed := range 30 {
		r := rand.New(rand.NewSource(int64(seed)))
		d := newDesk()
		var l []api.Word
		texts := map[api.Word]string{}
		for range r.Intn(2000) {
			s := strings.Repeat("é", r.Intn(5))
			w := d.str(s)
			l, texts[w] = append(l, w), s
		}
		got := must(lists.Slice(d.Heap, must(lists.Sorted(d.Heap, d.list(l...)))))
		var want []api.Word
		for n := range 5 {
			for _, w := range l {
				if texts[w] == strings.Repeat("é", n) {
					want = append(want, w)
				}
			}
		}
		if !slices.Equal(got, want) {
			t.Fatal(seed, "not stable")
		}
	}
}

// TestSortedIntegers compares with slices.Sort.
func TestSortedIntegers(t *testing.T) {
	for seed := range 50 {
		r := rand.New(rand.NewSource(int64(seed)))
		d := newDesk()
		var l []int
		var words []api.Word
		for range r.Intn(300) {
			n := []int{r.Intn(10) - 5, r.Intn(1000), -r.Int(), r.Int(), 1<<63 - 1, -1 << 63}[r.Intn(6)]
			l, words = append(l, n), append(words, integer(n))
		}
		slices.Sort(l)
		got := must(lists.Slice(d.Heap, must(lists.Sorted(d.Heap, d.list(words...)))))
		for i, n := range l {
			if len(got) != len(l) || got[i] != integer(n) {
				t.Fatal(seed, i, n)
			}
		}
	}
}

func TestSortedLong(t *testing.T) {
	d := newDesk()
	var l []api.Word
	for i := range api.MaxObjects / 2 {
		l = append(l, integer(i*40503%api.MaxObjects))
	}
	w := d.list(l...)
	got, e := lists.Sorted(d.Heap, w)
	sorted := must(lists.Slice(d.Heap, got))
	slices.SortFunc(l, func(a, b api.Word) int { return a.N - b.N })
	if e != api.OK || !slices.Equal(sorted, l) || d.Many() != api.MaxObjects {
		t.Error(e, len(sorted))
	}
}
