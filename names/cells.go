package names

import (
	"cmp"
	"slices"

	"copyist/api"
)

// cell is the function and the properties of a symbol.
type cell struct {
	function    api.Word
	hasFunction bool
	props       []api.Prop // in ascending order of their names
}

// clone returns a cell that shares no memory with c.
func (c *cell) clone() cell {
	return cell{function: c.function, hasFunction: c.hasFunction, props: c.allProps()}
}

func (c *cell) allProps() []api.Prop { return append([]api.Prop(nil), c.props...) }

// place returns the index of the property with that key, or the one where it belongs, and whether it is there.
func (c *cell) place(key int) (int, bool) {
	return slices.BinarySearchFunc(c.props, key, func(p api.Prop, key int) int {
		return cmp.Compare(p.Name, key)
	})
}

func (c *cell) prop(key int) (api.Word, bool) {
	i, found := c.place(key)
	if !found {
		return api.Word{}, false
	}
	return c.props[i].Value, true
}

func (c *cell) setProp(key int, w api.Word) {
	i, found := c.place(key)
	if !found {
		c.props = slices.Insert(c.props, i, api.Prop{Name: key})
	}
	c.props[i].Value = w
}

// Func returns the function of symbol n, and whether it has one.
func (t *Table) Func(n int) (api.Word, bool) {
	if !t.valid() || t.at(n) == nil {
		return api.Word{}, false
	}
	return t.at(n).function, t.at(n).hasFunction
}

// SetFunc makes w the function of symbol n.
func (t *Table) SetFunc(n int, w api.Word) api.Errno {
	if e := t.checkFunc(n); e != api.OK {
		return e
	}
	s := t.at(n)
	s.function, s.hasFunction = w, true
	return api.OK
}

// ClearFunc takes the function of symbol n away.
func (t *Table) ClearFunc(n int) api.Errno {
	if e := t.checkFunc(n); e != api.OK {
		return e
	}
	s := t.at(n)
	s.function, s.hasFunction = api.Word{}, false
	return api.OK
}

// checkFunc returns the error of a change of the function of symbol n.
func (t *Table) checkFunc(n int) api.Errno {
	if !t.valid() {
		return api.ErrNil
	}
	if t.at(n) == nil {
		return api.ErrUnknown
	}
	if n == api.SymNil || n == api.SymT {
		return api.ErrConst
	}
	return api.OK
}

// Prop returns the value of the property of symbol n with that key, and whether there is one.
func (t *Table) Prop(n, key int) (api.Word, bool) {
	if !t.valid() || t.at(n) == nil {
		return api.Word{}, false
	}
	return t.at(n).prop(key)
}

// SetProp makes w the value of the property of symbol n with that key.
func (t *Table) SetProp(n, key int, w api.Word) api.Errno {
	if !t.valid() {
		return api.ErrNil
	}
	if t.at(n) == nil || t.at(key) == nil {
		return api.ErrUnknown
	}
	t.at(n).setProp(key, w)
	return api.OK
}

// Props returns all properties of symbol n in ascending order of their keys.
func (t *Table) Props(n int) []api.Prop {
	if !t.valid() || t.at(n) == nil {
		return nil
	}
	return t.at(n).allProps()
}
