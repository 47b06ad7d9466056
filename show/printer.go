package show

import (
	"strconv"
	"strings"

	"copyist/api"
	"copyist/heap"
	"copyist/names"
	"copyist/runes"
)

// text collects a text. Its methods panic with an error where it becomes too long.
type text struct {
	strings.Builder
	chars int
}

func (x *text) put(s string) {
	x.chars += runes.Len(s)
	if x.chars > api.MaxChars {
		panic(api.ErrLong)
	}
	x.WriteString(s)
}

// printer collects the text of a word. Its methods panic with the first error.
type printer struct {
	text
	heap   *heap.Heap
	table  *names.Table
	escape bool
	open   int // how many brackets and prefixes are open
}

// sure returns the result of a call that cannot fail, as the word was found to be right for it.
func sure[T any](x T, e api.Errno) T {
	if e != api.OK {
		panic(e)
	}
	return x
}

func (p *printer) word(w api.Word) {
	if !p.heap.Live(w) {
		panic(api.ErrType)
	}
	switch w.Kind {
	case api.KindInt:
		p.put(strconv.Itoa(w.N))
	case api.KindSym:
		p.put(p.symbol(w.N))
	case api.KindCons:
		p.cons(w)
	case api.KindText:
		p.put(p.quotation(sure(p.heap.TextOf(w))))
	case api.KindVec:
		p.vector(w)
	case api.KindPrim:
		p.put("#<subr " + p.name(w.N) + ">")
	default:
		p.put("#<" + describe(w.Kind) + " " + strconv.Itoa(w.N) + ">")
	}
}

// describe returns what the objects are called of which only the number is shown.
func describe(kind int) string {
	switch kind {
	case api.KindCode:
		return "code"
	case api.KindBuffer:
		return "buffer"
	case api.KindMarker:
		return "marker"
	case api.KindOver:
		return "overlay"
	case api.KindWindow:
		return "window"
	}
	panic(api.ErrType)
}

// enter begins what a bracket or prefix opens.
func (p *printer) enter(s string) {
	if p.open == api.MaxNest {
		panic(api.ErrDepth)
	}
	p.open++
	p.put(s)
}

// leave ends it; s is empty after a prefix.
func (p *printer) leave(s string) {
	p.put(s)
	p.open--
}

func (p *printer) cons(w api.Word) {
	if prefix, x := p.prefixed(w); prefix != "" {
		p.enter(prefix)
		p.word(x)
		p.leave("")
		return
	}
	p.enter("(")
	p.elements(w)
	p.leave(")")
}

// prefixed returns the prefix of w and the word behind it if w is shown so, no prefix otherwise.
func (p *printer) prefixed(w api.Word) (prefix string, x api.Word) {
	first, rest := sure(p.heap.Car(w)), sure(p.heap.Cdr(w))
	if first.Kind != api.KindSym || !p.isCons(rest) || !isNil(sure(p.heap.Cdr(rest))) {
		return "", x
	}
	return prefixOf(first.N), sure(p.heap.Car(rest))
}

func (p *printer) isCons(w api.Word) bool { return w.Kind == api.KindCons && p.heap.Live(w) }

func isNil(w api.Word) bool { return w == api.Word{Kind: api.KindSym, N: api.SymNil} }

// prefixOf returns the prefix that stands for a symbol, nothing if there is none.
func prefixOf(symbol int) string {
	prefix := ""
	switch symbol {
	case api.SymFunction:
		prefix = "#"
		fallthrough
	case api.SymQuote:
		prefix += "'"
	case api.SymBack:
		prefix = "`"
	case api.SymSplice:
		prefix = "@"
		fallthrough
	case api.SymComma:
		prefix = "," + prefix
	}
	return prefix
}

// elements shows what is between the parentheses of the list that begins with the cons w.
func (p *printer) elements(w api.Word) {
	p.word(sure(p.heap.Car(w)))
	w = sure(p.heap.Cdr(w))
	for p.isCons(w) {
		p.put(" ")
		p.word(sure(p.heap.Car(w)))
		w = sure(p.heap.Cdr(w))
	}
	if !isNil(w) {
		p.put(" . ")
		p.word(w)
	}
}

func (p *printer) vector(w api.Word) {
	p.enter("[")
	x, e := p.heap.At(w, 0)
	for i := 1; e == api.OK; i++ {
		if i > 1 {
			p.put(" ")
		}
		p.word(x)
		x, e = p.heap.At(w, i)
	}
	p.leave("]")
}
