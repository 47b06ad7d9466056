package read

import (
	"copyist/api"
	"copyist/heap"
	"copyist/names"
	"copyist/runes"
)

// atEnd stands for the character at the end of the text.
const atEnd = -1

// parser reads forms from a text. Its methods panic with a fault where the text has an error.
type parser struct {
	heap    *heap.Heap
	table   *names.Table
	text    []int // the characters
	at      int   // the position of the next character
	open    int   // how many brackets and prefixes are open
	readers map[int]func(*parser) api.Word
}

// begin returns a parser at the beginning of s.
func begin(h *heap.Heap, t *names.Table, s string) *parser {
	if h.Limit() == 0 || t.Many() == 0 { // no valid one has none
		panic(fault(api.ErrNil, 0))
	}
	text, e := runes.List(s)
	if e != api.OK {
		panic(fault(e, 0))
	}
	return &parser{heap: h, table: t, text: text, readers: readers()}
}

// readers returns what reads the forms by their first characters. All other characters begin tokens.
func readers() map[int]func(*parser) api.Word {
	return map[int]func(*parser) api.Word{
		'(':   (*parser).list,
		'[':   (*parser).vector,
		'\'':  (*parser).quoted,
		'`':   (*parser).backquoted,
		',':   (*parser).comma,
		'#':   (*parser).hash,
		'"':   (*parser).quotation,
		'?':   (*parser).character,
		')':   (*parser).stray,
		']':   (*parser).stray,
		atEnd: (*parser).stray,
	}
}

func (p *parser) moveTo(at int) {
	if at < 0 || at > len(p.text) {
		panic(fault(api.ErrRange, 0))
	}
	p.at = at
}

// char returns the character at a position from the current one on.
func (p *parser) char(at int) int {
	if at >= len(p.text) {
		return atEnd
	}
	return p.text[at]
}

func (p *parser) peek() int { return p.char(p.at) }

// next returns the next character, which the form that is being read requires, and moves behind it.
func (p *parser) next() int {
	c := p.peek()
	if c == atEnd {
		panic(malformed(p.at))
	}
	p.at++
	return c
}

// ends reports whether a token ends before c.
func ends(c int) bool { return c == atEnd || Delimiter(c) }

// more skips blanks and comments, and reports whether anything follows.
func (p *parser) more() bool {
	for {
		switch c := p.peek(); {
		case c == atEnd:
			return false
		case Blank(c):
			p.at++
		case c == ';':
			p.skipLine()
		default:
			return true
		}
	}
}

func (p *parser) skipLine() {
	for c := p.peek(); c != atEnd && c != '\n'; c = p.peek() {
		p.at++
	}
}

// form reads a form; blanks and comments may precede it.
func (p *parser) form() api.Word {
	p.more()
	if read, found := p.readers[p.peek()]; found {
		return read(p)
	}
	return p.token()
}

// stray refuses what cannot begin a form.
func (p *parser) stray() api.Word { panic(malformed(p.at)) }

// enter opens a bracket or prefix of n characters, and returns its position.
func (p *parser) enter(n int) int {
	if p.open == api.MaxNest {
		panic(fault(api.ErrDepth, p.at))
	}
	p.open++
	p.at += n
	return p.at - n
}

// leave closes what was opened last, whose last part has n characters.
func (p *parser) leave(n int) {
	p.open--
	p.at += n
}

func (p *parser) list() api.Word {
	start := p.enter(1)
	var parts []api.Word
	last := symbol(api.SymNil)
	for p.more(); p.peek() != ')'; p.more() {
		if len(parts) > 0 && p.atDot() {
			last = p.tail()
			break
		}
		parts = append(parts, p.form())
	}
	p.leave(1)
	return p.chain(start, parts, last)
}

// atDot reports whether a dot that stands alone is next.
func (p *parser) atDot() bool { return p.peek() == '.' && ends(p.char(p.at+1)) }

// tail reads a dot and the form that ends a list, up to the closing bracket.
func (p *parser) tail() api.Word {
	p.at++
	w := p.form()
	p.more()
	if p.peek() != ')' {
		panic(malformed(p.at))
	}
	return w
}

func (p *parser) vector() api.Word {
	start := p.enter(1)
	var parts []api.Word
	for p.more(); p.peek() != ']'; p.more() {
		parts = append(parts, p.form())
	}
	p.leave(1)
	w, e := p.heap.Vec(parts)
	if e != api.OK {
		// Also if there are too many elements: the chapter limits the lengths of symbols and strings only.
		panic(fault(api.ErrFull, start))
	}
	return w
}

func (p *parser) quoted() api.Word { return p.prefixed(1, api.SymQuote) }

func (p *parser) backquoted() api.Word { return p.prefixed(1, api.SymBack) }

func (p *parser) comma() api.Word {
	if p.char(p.at+1) == '@' {
		return p.prefixed(2, api.SymSplice)
	}
	return p.prefixed(1, api.SymComma)
}

func (p *parser) hash() api.Word {
	switch c := p.char(p.at + 1); {
	case c == '\'':
		return p.prefixed(2, api.SymFunction)
	case c == '#' && ends(p.char(p.at+2)):
		p.at += 2
		return p.intern("", p.at-2)
	}
	panic(malformed(p.at))
}

// prefixed reads a prefix of n characters, which stands for a fixed symbol, and the form that follows.
func (p *parser) prefixed(n, name int) api.Word {
	start := p.enter(n)
	w := p.form()
	p.leave(0)
	return p.chain(start, []api.Word{symbol(name), w}, symbol(api.SymNil))
}

// chain creates the list of parts that ends with last, the last cons first; its form begins at start.
func (p *parser) chain(start int, parts []api.Word, last api.Word) api.Word {
	for i := len(parts) - 1; i >= 0; i-- {
		w, e := p.heap.Cons(parts[i], last)
		if e != api.OK {
			panic(fault(e, start))
		}
		last = w
	}
	return last
}
