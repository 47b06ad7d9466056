package lists

import (
	"cmp"
	"slices"
	"strings"

	"copyist/api"
)

func isInteger(w api.Word) bool { return w.Kind == api.KindInt }

func (s store) isText(w api.Word) bool { return w.Kind == api.KindText && s.Live(w) }

// compare compares two integers or two strings, as strings.Compare does; it panics for other words.
func (s store) compare(a, b api.Word) int {
	if isInteger(a) && isInteger(b) {
		return cmp.Compare(a.N, b.N)
	}
	return strings.Compare(sure(s.TextOf(a)), sure(s.TextOf(b))) // the order of bytes is that of characters
}

// checkComparable panics unless all words are integers or all are strings.
func (s store) checkComparable(l []api.Word) {
	if !all(l, isInteger) && !all(l, s.isText) {
		panic(api.ErrType)
	}
}

func all(l []api.Word, is func(w api.Word) bool) bool {
	return !slices.ContainsFunc(l, func(w api.Word) bool { return !is(w) })
}
