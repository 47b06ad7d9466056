package read

import "copyist/api"

// character reads a character literal.
func (p *parser) character() api.Word {
	p.at++
	mods := p.modifiers()
	c := p.next()
	if c == '\\' {
		c = p.escaped()
	}
	if !ends(p.peek()) {
		panic(malformed(p.at))
	}
	return integer(modified(c, mods))
}

// modifiers reads all modifiers, and returns their bits together: a modifier that is repeated counts once.
func (p *parser) modifiers() int {
	mods := 0
	for p.peek() == '\\' && p.char(p.at+2) == '-' {
		bit := modifier(p.char(p.at + 1))
		if bit == 0 {
			break
		}
		mods |= bit
		p.at += 3
	}
	return mods
}

// modifier returns the bit of the modifier with the letter c, 0 if there is none.
func modifier(c int) int {
	switch c {
	case 'C':
		return api.ModCtrl
	case 'M':
		return api.ModMeta
	case 'S':
		return api.ModShift
	}
	return 0
}

// escaped reads what follows a backslash in a character literal, and returns the character for which it stands.
func (p *parser) escaped() int {
	start := p.at - 1
	switch c := p.next(); {
	case c == 's':
		return ' '
	case c == 'd':
		return 127
	case isLetter(c):
		return control(c, start)
	default:
		return c
	}
}

// isLetter reports whether c is an ASCII letter.
func isLetter(c int) bool { return 'a' <= c && c <= 'z' || 'A' <= c && c <= 'Z' }

// modified returns c with modifiers.
func modified(c, mods int) int {
	if mods&api.ModCtrl == 0 {
		return c + mods
	}
	switch {
	case 'a' <= c && c <= 'z' || '@' <= c && c <= '_':
		return c%32 + mods - api.ModCtrl
	case c == '?':
		return 127 + mods - api.ModCtrl
	}
	return c + mods
}
