// Package runes is layer 1: characters, and strings of characters by index. See shared/doc/01-runes.md.
package runes

import (
	"strings"
	"unicode/utf8"

	"copyist/api"
)

// Valid reports whether s is UTF-8 without surrogates, each character in its shortest form.
func Valid(s string) bool { return utf8.ValidString(s) }

// Len returns the number of characters of s, 0 if s is not valid.
func Len(s string) int {
	if !Valid(s) {
		return 0
	}
	return utf8.RuneCountInString(s)
}

// At returns the character at index i of s, and whether there is one.
func At(s string, i int) (int, bool) {
	if i < 0 || !Valid(s) {
		return 0, false
	}
	for _, c := range s {
		if i == 0 {
			return int(c), true
		}
		i--
	}
	return 0, false
}

// Cut returns the characters of s with indexes from from to to-1.
func Cut(s string, from, to int) (string, api.Errno) {
	if !Valid(s) {
		return "", api.ErrForm
	}
	if from < 0 || to < from || to > utf8.RuneCountInString(s) {
		return "", api.ErrRange
	}
	rest := s[offset(s, from):]
	// A clone, so that a small part does not keep all of s in memory.
	return strings.Clone(rest[:offset(rest, to-from)]), api.OK
}

// offset returns the number of bytes of the first n characters of s; s has at least n.
func offset(s string, n int) int {
	for at := range s {
		if n == 0 {
			return at
		}
		n--
	}
	return len(s)
}

// Text returns the string of the characters of l.
func Text(l []int) (string, api.Errno) {
	if len(l) > api.MaxChars {
		return "", api.ErrLong
	}
	var b strings.Builder
	for _, c := range l {
		if !Is(c) {
			return "", api.ErrRange
		}
		b.WriteRune(rune(c))
	}
	return b.String(), api.OK
}

// List returns all characters of s.
func List(s string) ([]int, api.Errno) {
	if !Valid(s) {
		return nil, api.ErrForm
	}
	l := make([]int, 0, utf8.RuneCountInString(s))
	for _, c := range s {
		l = append(l, int(c))
	}
	return l, api.OK
}
