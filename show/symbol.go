package show

import (
	"strings"

	"copyist/api"
	"copyist/read"
)

// name returns the name of a symbol.
func (p *printer) name(symbol int) string {
	name, found := p.table.Name(symbol)
	if !found {
		panic(api.ErrUnknown)
	}
	return name
}

// symbol returns the text of a symbol.
func (p *printer) symbol(n int) string {
	name := p.name(n)
	interned := p.table.Interned(n)
	if p.escape && interned && name == "" {
		return "##"
	}
	if p.escape {
		name = escapedName(name)
	}
	if !interned {
		name = "#:" + name
	}
	return name
}

// escapedName returns what is read as the symbol with that name.
func escapedName(name string) string {
	escaped := marked(name, func(c rune) bool { return c == '\\' || read.Delimiter(int(c)) })
	if looksOtherwise(name) {
		return `\` + escaped
	}
	return escaped
}

// looksOtherwise reports whether name, which has no backslash before its first character, would be read as something other than a symbol.
func looksOtherwise(name string) bool {
	if name == "" {
		return false
	}
	switch name[0] {
	case '?', '#', '@':
		return true
	case '+', '-':
		return isDigits(name[1:])
	}
	return name == "." || isDigits(name)
}

func isDigits(s string) bool { return s != "" && strings.Trim(s, "0123456789") == "" }

// quotation returns the text of a string.
func (p *printer) quotation(s string) string {
	if !p.escape {
		return s
	}
	return `"` + marked(s, func(c rune) bool { return c == '\\' || c == '"' }) + `"`
}

// marked returns s with a backslash before each character that is special.
func marked(s string, special func(c rune) bool) string {
	var b strings.Builder
	for _, c := range s {
		if special(c) {
			b.WriteByte('\\')
		}
		b.WriteRune(c)
	}
	return b.String()
}
