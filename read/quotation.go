package read

import (
	"strings"

	"copyist/api"
	"copyist/runes"
)

// mostDigits is how many digits the number of a character has at most.
const mostDigits = 6

// quotation reads a string.
func (p *parser) quotation() api.Word {
	start := p.at
	p.at++
	var b strings.Builder
	for c := p.next(); c != '"'; c = p.next() {
		if c == '\\' {
			p.escape(&b)
		} else {
			b.WriteRune(rune(c))
		}
	}
	w, e := p.heap.Text(b.String())
	if e != api.OK {
		panic(fault(e, start))
	}
	return w
}

// escape reads what follows a backslash in a string, and writes the character for which it stands, if any.
func (p *parser) escape(b *strings.Builder) {
	start := p.at - 1
	switch c := p.next(); c {
	case '\n':
	case '\\', '"':
		b.WriteRune(rune(c))
	case 'x':
		b.WriteRune(rune(p.numbered(start)))
	default:
		b.WriteRune(rune(control(c, start)))
	}
}

// numbered reads the number of a character in an escape that begins at start, and the backslash behind it.
func (p *parser) numbered(start int) int {
	n, digits := 0, 0
	for digits < mostDigits && isDigit(p.peek()) {
		n = 16*n + digitValue(p.next())
		digits++
	}
	if digits == mostDigits && !runes.Is(n) { // whatever follows, even the end of the text
		panic(malformed(start))
	}
	if p.next() != '\\' || digits == 0 || !runes.Is(n) {
		panic(malformed(start))
	}
	return n
}

// isDigit reports whether c is a hexadecimal digit.
func isDigit(c int) bool {
	return '0' <= c && c <= '9' || 'a' <= c && c <= 'f' || 'A' <= c && c <= 'F'
}

func digitValue(c int) int {
	if c <= '9' {
		return c - '0'
	}
	return c%32 + 9 // A and a are 1 modulo 32
}

// control returns the character for which c stands after a backslash at start, in strings and in character literals.
func control(c, start int) int {
	switch c {
	case 'n':
		return '\n'
	case 't':
		return '\t'
	case 'e':
		return 27
	}
	panic(malformed(start))
}
