package runes

import (
	"sort"

	"copyist/api"
)

// span is a range of characters, and the number that a table gives each of them.
type span struct{ from, to, n int }

// find returns the number that table gives c, and whether it contains c; the spans of table are ascending and disjoint.
func find(table []span, c int) (n int, found bool) {
	i := sort.Search(len(table), func(i int) bool { return c <= table[i].to })
	if i == len(table) || c < table[i].from {
		return 0, false
	}
	return table[i].n, true
}

// Is reports whether c is a character.
func Is(c int) bool {
	return 0 <= c && c <= api.MaxRune && (c < 0xd800 || 0xdfff < c)
}

// Width returns the width of c, 0 if c is not a character.
func Width(c int) int {
	if !Is(c) {
		return 0
	}
	table := [...]span{
		{0, 8, 2},
		{10, 31, 2},
		{127, 127, 2},
		{0x300, 0x36f, 0},
		{0x483, 0x489, 0},
		{0x591, 0x5bd, 0},
		{0x1100, 0x115f, 2},
		{0x200b, 0x200f, 0},
		{0x20d0, 0x20ff, 0},
		{0x2e80, 0x303e, 2},
		{0x3041, 0xa4cf, 2},
		{0xac00, 0xd7a3, 2},
		{0xf900, 0xfaff, 2},
		{0xfe00, 0xfe0f, 0},
		{0xfe20, 0xfe2f, 0},
		{0xfe30, 0xfe6f, 2},
		{0xff00, 0xff60, 2},
		{0xffe0, 0xffe6, 2},
		{0x1f300, 0x1f64f, 2},
		{0x1f900, 0x1f9ff, 2},
		{0x20000, 0x3fffd, 2},
	}
	if n, found := find(table[:], c); found {
		return n
	}
	return 1
}

// Up returns the upper-case form of a lower-case character, and c itself otherwise.
func Up(c int) int {
	table := [...]span{
		{'a', 'z', 32},
		{0xe0, 0xf6, 32},
		{0xf8, 0xfe, 32},
		{0x3b1, 0x3c1, 32},
		{0x3c2, 0x3c2, 31},
		{0x3c3, 0x3c9, 32},
		{0x430, 0x44f, 32},
		{0x450, 0x45f, 80},
	}
	n, _ := find(table[:], c)
	return c - n
}

// Down returns the lower-case form of an upper-case character, and c itself otherwise.
func Down(c int) int {
	table := [...]span{
		{'A', 'Z', 32},
		{0xc0, 0xd6, 32},
		{0xd8, 0xde, 32},
		{0x391, 0x3a1, 32},
		{0x3a3, 0x3a9, 32},
		{0x400, 0x40f, 80},
		{0x410, 0x42f, 32},
	}
	n, _ := find(table[:], c)
	return c + n
}

// Fold returns the one character that stands for all cases of c.
func Fold(c int) int { return Down(Up(c)) }

// Word reports whether c is a word character.
func Word(c int) bool {
	table := [...]span{
		{from: '0', to: '9'},
		{from: 'A', to: 'Z'},
		{from: 'a', to: 'z'},
		{from: 0xaa, to: 0xaa},
		{from: 0xb5, to: 0xb5},
		{from: 0xba, to: 0xba},
		{from: 0xc0, to: 0xd6},
		{from: 0xd8, to: 0xf6},
		{from: 0xf8, to: 0x24f},
		{from: 0x300, to: 0x37d},
		{from: 0x37f, to: 0x386},
		{from: 0x388, to: 0x3ff},
		{from: 0x400, to: 0x52f},
		{from: 0x5d0, to: 0x5ea},
		{from: 0x3041, to: 0x30ff},
		{from: 0x3400, to: 0x9fff},
		{from: 0xac00, to: 0xd7a3},
		{from: 0x20000, to: 0x3fffd},
	}
	_, found := find(table[:], c)
	return found
}
