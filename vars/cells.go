package vars

import (
	"maps"
	"slices"

	"copyist/api"
)

// noScope is the scope of the default cells. It is less than all others, so that these cells are the first in order.
const noScope = 0

// cell is a value, or none.
type cell struct {
	word api.Word // the zero word if there is no value
	set  bool
}

func full(w api.Word) cell { return cell{word: w, set: true} }

func (c cell) appendTo(l []api.Word) []api.Word {
	if c.set {
		l = append(l, c.word)
	}
	return l
}

// cells is the cells by scope and variable. A scope without cells is absent.
type cells map[int]map[int]*cell

func (x cells) has(k, n int) bool { return x[k][n] != nil }

// content returns what the cell of variable n in scope k contains, nothing if there is no cell.
func (x cells) content(k, n int) cell {
	if c := x[k][n]; c != nil {
		return *c
	}
	return cell{}
}

func (x cells) value(k, n int) (api.Word, bool) {
	c := x.content(k, n)
	return c.word, c.set
}

// store puts c into the cell of variable n in scope k, a new one if there is none.
func (x cells) store(k, n int, c cell) {
	if old := x[k][n]; old != nil {
		*old = c
		return
	}
	if x[k] == nil {
		x[k] = map[int]*cell{}
	}
	x[k][n] = &c
}

func (x cells) remove(k, n int) {
	delete(x[k], n)
	if len(x[k]) == 0 {
		delete(x, k)
	}
}

// values returns the values in ascending order of scopes and, within a scope, of variables.
func (x cells) values() []api.Word {
	var l []api.Word
	for _, k := range slices.Sorted(maps.Keys(x)) {
		for _, n := range slices.Sorted(maps.Keys(x[k])) {
			l = x.content(k, n).appendTo(l)
		}
	}
	return l
}

// clone returns cells that share no memory with x.
func (x cells) clone() cells {
	y := cells{}
	for k, m := range x {
		for n, c := range m {
			y.store(k, n, *c)
		}
	}
	return y
}
