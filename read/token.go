package read

import (
	"strconv"
	"strings"

	"copyist/api"
)

func integer(n int) api.Word { return api.Word{Kind: api.KindInt, N: n} }

func symbol(n int) api.Word { return api.Word{Kind: api.KindSym, N: n} }

// token reads an integer or a symbol.
func (p *parser) token() api.Word {
	start := p.at
	name, plain := p.collect()
	switch {
	case plain && name == ".":
		panic(malformed(start))
	case plain && isInteger(name):
		return integer(valueOf(name, start))
	}
	return p.intern(name, start)
}

// collect reads the characters of a token, and reports whether there was no backslash.
func (p *parser) collect() (name string, plain bool) {
	var b strings.Builder
	plain = true
	for !ends(p.peek()) {
		c := p.next()
		if c == '\\' {
			plain = false
			c = p.next()
		}
		b.WriteRune(rune(c))
	}
	return b.String(), plain
}

// isInteger reports whether name is digits, with or without a sign.
func isInteger(name string) bool {
	digits := name
	if strings.HasPrefix(name, "+") || strings.HasPrefix(name, "-") {
		digits = name[1:]
	}
	return digits != "" && strings.Trim(digits, "0123456789") == ""
}

// valueOf returns the value of an integer that begins at start.
func valueOf(name string, start int) int {
	n, e := strconv.ParseInt(name, 10, 64)
	if e != nil || n < api.MinInt || n > api.MaxInt {
		panic(fault(api.ErrOver, start))
	}
	return int(n)
}

// intern returns the symbol of a form that begins at start.
func (p *parser) intern(name string, start int) api.Word {
	n, e := p.table.Intern(name)
	if e != api.OK {
		panic(fault(e, start))
	}
	return symbol(n)
}
