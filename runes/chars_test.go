package runes_test

import (
	"math"
	"testing"

	"copyist/runes"
)

// noChars are integers that are no characters; some of them become characters when their upper bits are cut off.
var noChars = []int{-1, -2, -'a', math.MinInt32, math.MinInt, 0xd800, 0xdbff, 0xdc00, 0xdfff, 0x110000, 0x110001, math.MaxInt32, math.MaxInt,
	1<<32 + 'a', 1<<32 + 0x301, 1<<32 + 0x4e00, -1<<32 + 'a', 1<<40 + 0x3c2}

// ends is a range of characters, from the first one to the last one.
type ends struct{ from, to int }

// within returns whether one of the ranges contains c.
func within(c int, l []ends) bool {
	for _, x := range l {
		if x.from <= c && c <= x.to {
			return true
		}
	}
	return false
}

var (
	narrowest = []ends{{0x300, 0x36f}, {0x483, 0x489}, {0x591, 0x5bd}, {0x200b, 0x200f}, {0x20d0, 0x20ff}, {0xfe00, 0xfe0f}, {0xfe20, 0xfe2f}}
	widest    = []ends{{0, 8}, {10, 31}, {127, 127}, {0x1100, 0x115f}, {0x2e80, 0x303e}, {0x3041, 0xa4cf}, {0xac00, 0xd7a3}, {0xf900, 0xfaff},
		{0xfe30, 0xfe6f}, {0xff00, 0xff60}, {0xffe0, 0xffe6}, {0x1f300, 0x1f64f}, {0x1f900, 0x1f9ff}, {0x20000, 0x3fffd}}
	words = []ends{{'0', '9'}, {'A', 'Z'}, {'a', 'z'}, {0xaa, 0xaa}, {0xb5, 0xb5}, {0xba, 0xba}, {0xc0, 0xd6}, {0xd8, 0xf6}, {0xf8, 0x24f},
		{0x300, 0x37d}, {0x37f, 0x386}, {0x388, 0x3ff}, {0x400, 0x52f}, {0x5d0, 0x5ea}, {0x3041, 0x30ff}, {0x3400, 0x9fff}, {0xac00, 0xd7a3}, {0x20000, 0x3fffd}}
)

// everyInteger calls f with all characters, the surrogates, integers around them, and noChars.
func everyInteger(f func(c int)) {
	for c := -0x100; c < 0x110100; c++ {
		f(c)
	}
	for _, c := range noChars {
		f(c)
	}
}

func TestIs(t *testing.T) {
	for _, c := range []int{0, 'a', 0xd7ff, 0xe000, 0xfffe, 0xffff, 0x10000, 0x10ffff} {
		if !runes.Is(c) {
			t.Errorf("Is(%#x) is false", c)
		}
	}
	for _, c := range noChars {
		if runes.Is(c) {
			t.Errorf("Is(%#x) is true", c)
		}
	}
	everyInteger(func(c int) {
		if runes.Is(c) != within(c, []ends{{0, 0xd7ff}, {0xe000, 0x10ffff}}) {
			t.Errorf("Is(%#x) is %v", c, runes.Is(c))
		}
	})
}

func TestWidth(t *testing.T) {
	for _, x := range []struct{ c, width int }{{1, 2}, {9, 1}, {0x301, 0}, {0x4e00, 2}, {' ', 1}, {'a', 1}, {126, 1}, {128, 1}, {0x303f, 1}, {0x3040, 1}, {0x10ffff, 1}} {
		if n := runes.Width(x.c); n != x.width {
			t.Errorf("Width(%#x) is %d", x.c, n)
		}
	}
	for _, c := range noChars {
		if n := runes.Width(c); n != 0 {
			t.Errorf("Width(%#x) is %d", c, n)
		}
	}
	everyInteger(func(c int) {
		want := 1
		if within(c, narrowest) || !runes.Is(c) {
			want = 0
		} else if within(c, widest) {
			want = 2
		}
		if n := runes.Width(c); n != want {
			t.Errorf("Width(%#x) is %d", c, n)
		}
	})
}

// upper returns the upper-case form of c as the chapter says it.
func upper(c int) int {
	switch {
	case c == 0x3c2:
		return 0x3a3
	case within(c, []ends{{0x450, 0x45f}}):
		return c - 80
	case within(c, []ends{{'a', 'z'}, {0xe0, 0xfe}, {0x3b1, 0x3c9}, {0x430, 0x44f}}) && c != 0xf7:
		return c - 32
	}
	return c
}

func TestUp(t *testing.T) {
	for _, x := range []struct{ c, up int }{{'a', 'A'}, {'z', 'Z'}, {'A', 'A'}, {'`', '`'}, {'{', '{'}, {'1', '1'}, {0xdf, 0xdf}, {0xe0, 0xc0}, {0xf7, 0xf7},
		{0xfe, 0xde}, {0xff, 0xff}, {0x3b0, 0x3b0}, {0x3b1, 0x391}, {0x3c1, 0x3a1}, {0x3c2, 0x3a3}, {0x3c3, 0x3a3}, {0x3c9, 0x3a9}, {0x3ca, 0x3ca},
		{0x42f, 0x42f}, {0x430, 0x410}, {0x44f, 0x42f}, {0x450, 0x400}, {0x45f, 0x40f}, {0x460, 0x460}} {
		if c := runes.Up(x.c); c != x.up {
			t.Errorf("Up(%#x) is %#x", x.c, c)
		}
	}
	everyInteger(func(c int) {
		if runes.Up(c) != upper(c) {
			t.Errorf("Up(%#x) is %#x", c, runes.Up(c))
		}
	})
}

func TestDown(t *testing.T) {
	for _, x := range []struct{ c, down int }{{'A', 'a'}, {'Z', 'z'}, {'a', 'a'}, {'@', '@'}, {'[', '['}, {'1', '1'}, {0xbf, 0xbf}, {0xc0, 0xe0}, {0xd7, 0xd7},
		{0xde, 0xfe}, {0xdf, 0xdf}, {0x390, 0x390}, {0x391, 0x3b1}, {0x3a1, 0x3c1}, {0x3a2, 0x3a2}, {0x3a3, 0x3c3}, {0x3a9, 0x3c9}, {0x3aa, 0x3aa},
		{0x3c2, 0x3c2}, {0x3ff, 0x3ff}, {0x400, 0x450}, {0x40f, 0x45f}, {0x410, 0x430}, {0x42f, 0x44f}, {0x430, 0x430}} {
		if c := runes.Down(x.c); c != x.down {
			t.Errorf("Down(%#x) is %#x", x.c, c)
		}
	}
	lower := map[int]int{}
	everyInteger(func(c int) {
		if up := upper(c); up != c && c != 0x3c2 {
			lower[up] = c
		}
	})
	everyInteger(func(c int) {
		want, is := lower[c]
		if !is {
			want = c
		}
		if runes.Down(c) != want {
			t.Errorf("Down(%#x) is %#x", c, runes.Down(c))
		}
	})
}

func TestFold(t *testing.T) {
	for _, x := range []struct{ c, fold int }{{'a', 'a'}, {'A', 'a'}, {'1', '1'}, {0x3c2, 0x3c3}, {0x3c3, 0x3c3}, {0x3a3, 0x3c3}, {0xd7, 0xd7}, {0xf7, 0xf7},
		{0x400, 0x450}, {0x450, 0x450}, {0xdf, 0xdf}, {0xff, 0xff}} {
		if c := runes.Fold(x.c); c != x.fold {
			t.Errorf("Fold(%#x) is %#x", x.c, c)
		}
	}
	everyInteger(func(c int) {
		if runes.Fold(c) != runes.Down(runes.Up(c)) {
			t.Errorf("Fold(%#x) is %#x", c, runes.Fold(c))
		}
	})
}

func TestNoCaseWithoutCharacter(t *testing.T) {
	for _, c := range noChars {
		if runes.Up(c) != c || runes.Down(c) != c || runes.Fold(c) != c {
			t.Errorf("cases of %#x: %#x, %#x, %#x", c, runes.Up(c), runes.Down(c), runes.Fold(c))
		}
	}
}

func TestWord(t *testing.T) {
	for _, c := range []int{'0', '9', 'A', 'Z', 'a', 'z', 0xaa, 0xb5, 0xba, 0xc0, 0x24f, 0x300, 0x3ff, 0x410, 0x5ea, 0x4e00, 0x3fffd} {
		if !runes.Word(c) {
			t.Errorf("Word(%#x) is false", c)
		}
	}
	for _, c := range []int{'_', '-', ' ', '/', ':', '@', '[', '`', '{', 0xd7, 0xf7, 0x250, 0x2ff, 0x37e, 0x387, 0x530, 0x1f600} {
		if runes.Word(c) {
			t.Errorf("Word(%#x) is true", c)
		}
	}
	for _, c := range noChars {
		if runes.Word(c) {
			t.Errorf("Word(%#x) is true", c)
		}
	}
	everyInteger(func(c int) {
		if runes.Word(c) != within(c, words) {
			t.Errorf("Word(%#x) is %v", c, runes.Word(c))
		}
	})
}

// P1.3
func TestCaseTheorems(t *testing.T) {
	everyInteger(func(c int) {
		up, down, fold := runes.Up(c), runes.Down(c), runes.Fold(c)
		if runes.Up(up) != up || runes.Down(down) != down || runes.Fold(fold) != fold {
			t.Errorf("%#x: Up, Down or Fold is not idempotent", c)
		}
		if runes.Fold(up) != fold || runes.Fold(down) != fold {
			t.Errorf("%#x: the folds of Up, Down and itself are %#x, %#x, %#x", c, runes.Fold(up), runes.Fold(down), fold)
		}
	})
}
