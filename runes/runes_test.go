package runes_test

import (
	"math"
	"slices"
	"strings"
	"testing"

	"copyist/api"
	"copyist/runes"
)

// validStrings are strings with their characters: the bounds of every length of encoding, and mixtures.
var validStrings = []struct {
	s string
	l []int
}{
	{"", nil},
	{"a", []int{'a'}},
	{"aé", []int{'a', 0xe9}},
	{"a€c", []int{'a', 0x20ac, 'c'}},
	{"\x00", []int{0}},
	{"\x7f", []int{0x7f}},
	{"\xc2\x80", []int{0x80}},
	{"\xdf\xbf", []int{0x7ff}},
	{"\xe0\xa0\x80", []int{0x800}},
	{"\xed\x9f\xbf", []int{0xd7ff}},
	{"\xee\x80\x80", []int{0xe000}},
	{"\xef\xbf\xbd", []int{0xfffd}},
	{"\xef\xbf\xbf", []int{0xffff}},
	{"\xf0\x90\x80\x80", []int{0x10000}},
	{"\xf0\x9f\x98\x80", []int{0x1f600}},
	{"\xf4\x8f\xbf\xbf", []int{0x10ffff}},
	{"x\x00\xc3\xa9\xe2\x82\xac\xf0\x9f\x98\x80e\xcc\x81\n", []int{'x', 0, 0xe9, 0x20ac, 0x1f600, 'e', 0x301, '\n'}},
}

// invalidStrings are strings that are no UTF-8, overlong forms, encoded surrogates, characters that are too great, and cut encodings.
var invalidStrings = []string{
	"\xff", "\xfe", "\x80", "\xbf", "a\xff", "\xffa", "é\x80",
	"\xc0\x80", "\xc0\xaf", "\xc1\xbf",
	"\xe0\x80\x80", "\xe0\x9f\xbf",
	"\xf0\x80\x80\x80", "\xf0\x8f\xbf\xbf",
	"\xed\xa0\x80", "\xed\xaf\xbf", "\xed\xb0\x80", "\xed\xbf\xbf", "\xed\xa0\xbd\xed\xb8\x80",
	"\xf4\x90\x80\x80", "\xf5\x80\x80\x80", "\xf8\x88\x80\x80\x80", "\xfc\x84\x80\x80\x80\x80",
	"\xc3", "\xe2\x82", "\xf0\x9f\x98", "a\xc3", "\xc3a", "\xe2\x82a", "\xe2a\x82", "\xf0\x9f\x98a", "ab\xe2",
}

func TestValid(t *testing.T) {
	for _, x := range validStrings {
		if !runes.Valid(x.s) {
			t.Errorf("Valid(%q) is false", x.s)
		}
	}
	for _, s := range invalidStrings {
		if runes.Valid(s) {
			t.Errorf("Valid(%q) is true", s)
		}
	}
}

// encode returns the shortest encoding of c by the rule of UTF-8, without the library.
func encode(c int) string {
	tail := func(shift int) byte { return byte(0x80 | c>>shift&0x3f) }
	switch {
	case c < 0x80:
		return string([]byte{byte(c)})
	case c < 0x800:
		return string([]byte{byte(0xc0 | c>>6), tail(0)})
	case c < 0x10000:
		return string([]byte{byte(0xe0 | c>>12), tail(6), tail(0)})
	}
	return string([]byte{byte(0xf0 | c>>18), tail(12), tail(6), tail(0)})
}

func TestEveryInteger(t *testing.T) {
	for c := 0; c < 0x110100; c++ {
		s, is := encode(c), c <= 0x10ffff && (c < 0xd800 || c > 0xdfff)
		if runes.Valid(s) != is {
			t.Fatalf("Valid(%q) is %v", s, !is)
		}
		text, e := runes.Text([]int{c})
		if is && (e != api.OK || text != s) || !is && (e != api.ErrRange || text != "") {
			t.Fatalf("Text of %#x: %q, %v", c, text, e)
		}
		l, e := runes.List(s)
		if is && (e != api.OK || !slices.Equal(l, []int{c})) || !is && (e != api.ErrForm || len(l) != 0) {
			t.Fatalf("List(%q): %v, %v", s, l, e)
		}
	}
}

func TestTwoBytes(t *testing.T) {
	for a := range 256 {
		for b := range 256 {
			ascii := a < 0x80 && b < 0x80
			pair := 0xc2 <= a && a <= 0xdf && 0x80 <= b && b <= 0xbf
			if s := string([]byte{byte(a), byte(b)}); runes.Valid(s) != (ascii || pair) {
				t.Errorf("Valid(%q) is %v", s, runes.Valid(s))
			}
		}
	}
}

func TestLen(t *testing.T) {
	for _, x := range validStrings {
		if n := runes.Len(x.s); n != len(x.l) {
			t.Errorf("Len(%q) is %d", x.s, n)
		}
	}
	for _, s := range invalidStrings {
		if n := runes.Len(s); n != 0 {
			t.Errorf("Len(%q) is %d", s, n)
		}
	}
}

func TestAt(t *testing.T) {
	for _, x := range validStrings {
		for i, want := range x.l {
			if c, is := runes.At(x.s, i); !is || c != want {
				t.Errorf("At(%q, %d) is %#x, %v", x.s, i, c, is)
			}
		}
		for _, i := range []int{-1, -2, math.MinInt, len(x.l), len(x.l) + 1, math.MaxInt} {
			if c, is := runes.At(x.s, i); is || c != 0 {
				t.Errorf("At(%q, %d) is %#x, %v", x.s, i, c, is)
			}
		}
	}
	for _, s := range invalidStrings {
		for i := -1; i <= len(s); i++ {
			if c, is := runes.At(s, i); is || c != 0 {
				t.Errorf("At(%q, %d) is %#x, %v", s, i, c, is)
			}
		}
	}
}

func TestCut(t *testing.T) {
	for _, x := range validStrings {
		for from := range len(x.l) + 1 {
			for to := from; to <= len(x.l); to++ {
				want := ""
				for _, c := range x.l[from:to] {
					want += encode(c)
				}
				if s, e := runes.Cut(x.s, from, to); e != api.OK || s != want {
					t.Errorf("Cut(%q, %d, %d) is %q, %v", x.s, from, to, s, e)
				}
			}
		}
	}
}

func TestCutErrors(t *testing.T) {
	ends := []struct{ from, to int }{
		{-1, 1}, {-1, -1}, {2, 1}, {1, 0}, {0, 4}, {3, 4}, {4, 4}, {4, 3}, {0, -1},
		{math.MinInt, 0}, {0, math.MaxInt}, {math.MinInt, math.MaxInt}, {math.MaxInt, math.MinInt}, {math.MaxInt, math.MaxInt},
	}
	for _, x := range ends {
		for _, s := range []string{"abc", "aé€", "😀😀😀"} {
			if part, e := runes.Cut(s, x.from, x.to); e != api.ErrRange || part != "" {
				t.Errorf("Cut(%q, %d, %d) is %q, %v", s, x.from, x.to, part, e)
			}
		}
		for _, s := range invalidStrings {
			if part, e := runes.Cut(s, x.from, x.to); e != api.ErrForm || part != "" {
				t.Errorf("Cut(%q, %d, %d) is %q, %v", s, x.from, x.to, part, e)
			}
		}
	}
	for _, s := range invalidStrings {
		if part, e := runes.Cut(s, 0, 0); e != api.ErrForm || part != "" {
			t.Errorf("Cut(%q, 0, 0) is %q, %v", s, part, e)
		}
	}
}

func TestList(t *testing.T) {
	for _, x := range validStrings {
		if l, e := runes.List(x.s); e != api.OK || !slices.Equal(l, x.l) {
			t.Errorf("List(%q) is %v, %v", x.s, l, e)
		}
	}
	for _, s := range invalidStrings {
		if l, e := runes.List(s); e != api.ErrForm || len(l) != 0 {
			t.Errorf("List(%q) is %v, %v", s, l, e)
		}
	}
	l, _ := runes.List("abc")
	l[0] = 'x'
	if again, _ := runes.List("abc"); again[0] != 'a' {
		t.Error("two results of List share memory")
	}
}

func TestText(t *testing.T) {
	for _, x := range validStrings {
		given := slices.Clone(x.l)
		if s, e := runes.Text(given); e != api.OK || s != x.s {
			t.Errorf("Text(%v) is %q, %v", x.l, s, e)
		}
		if !slices.Equal(given, x.l) {
			t.Errorf("Text changed %v to %v", x.l, given)
		}
	}
	if s, e := runes.Text([]int{}); e != api.OK || s != "" {
		t.Errorf("Text of an empty slice is %q, %v", s, e)
	}
}

func TestTextErrors(t *testing.T) {
	for _, c := range []int{-1, -'a', math.MinInt, 0xd800, 0xdbff, 0xdc00, 0xdfff, 0x110000, 1<<32 + 'a', -1<<32 + 'a', math.MaxInt} {
		for _, l := range [][]int{{c}, {'a', c}, {c, 'a'}, {'a', c, 'b'}} {
			if s, e := runes.Text(l); e != api.ErrRange || s != "" {
				t.Errorf("Text(%v) is %q, %v", l, s, e)
			}
		}
	}
}

func TestTextLimit(t *testing.T) {
	full := slices.Repeat([]int{0x10ffff}, api.MaxChars)
	if s, e := runes.Text(full); e != api.OK || s != strings.Repeat("\U0010ffff", api.MaxChars) {
		t.Errorf("Text of MaxChars characters: %d bytes, %v", len(s), e)
	}
	full[api.MaxChars-1] = 0xd800
	if s, e := runes.Text(full); e != api.ErrRange || s != "" {
		t.Errorf("Text of MaxChars elements with a surrogate: %d bytes, %v", len(s), e)
	}
	for _, c := range []int{'a', -1} { // ErrLong is named before ErrRange
		if s, e := runes.Text(slices.Repeat([]int{c}, api.MaxChars+1)); e != api.ErrLong || s != "" {
			t.Errorf("Text of MaxChars+1 elements %d: %d bytes, %v", c, len(s), e)
		}
	}
}

// Only Text has a limit.
func TestLongStrings(t *testing.T) {
	n := api.MaxChars + 1
	s := strings.Repeat("é", n)
	if !runes.Valid(s) || runes.Len(s) != n {
		t.Errorf("Valid, Len of a long string: %v, %d", runes.Valid(s), runes.Len(s))
	}
	if c, is := runes.At(s, n-1); !is || c != 0xe9 {
		t.Errorf("At the end of a long string: %#x, %v", c, is)
	}
	if part, e := runes.Cut(s, 0, n); e != api.OK || part != s {
		t.Errorf("Cut of a long string: %d bytes, %v", len(part), e)
	}
	if l, e := runes.List(s); e != api.OK || !slices.Equal(l, slices.Repeat([]int{0xe9}, n)) {
		t.Errorf("List of a long string: %d elements, %v", len(l), e)
	}
}

// P1.3
func TestListThenText(t *testing.T) {
	for _, x := range validStrings {
		l, _ := runes.List(x.s)
		if s, e := runes.Text(l); e != api.OK || s != x.s {
			t.Errorf("Text(List(%q)) is %q, %v", x.s, s, e)
		}
	}
}

// P1.3
func TestPartsConcatenate(t *testing.T) {
	for _, x := range validStrings {
		n := runes.Len(x.s)
		for i := range n + 1 {
			for j := i; j <= n; j++ {
				a, _ := runes.Cut(x.s, 0, i)
				b, _ := runes.Cut(x.s, i, j)
				c, _ := runes.Cut(x.s, j, n)
				if a+b+c != x.s || runes.Len(a) != i || runes.Len(b) != j-i {
					t.Errorf("%q cut at %d and %d: %q, %q, %q", x.s, i, j, a, b, c)
				}
			}
		}
	}
}
