// Package fresh: the same things, in memory of their own, down to the bytes of texts.
package fresh

import (
	"bytes"
	"slices"
	"strings"

	"padlock/api"
)

// Base of tables.
func Base(b api.Base) api.Base {
	return api.Base{Tables: each(b.Tables, Table)}
}

// Table, with its index.
func Table(t api.Table) api.Table {
	return api.Table{Name: strings.Clone(t.Name), Cols: each(t.Cols, col), Rows: Lists(t.Rows), Index: Tree(t.Index)}
}

// Lists of values.
func Lists(l [][]api.Value) [][]api.Value {
	return each(l, func(one []api.Value) []api.Value { return each(one, val) })
}

// Tree of keys.
func Tree(t api.Tree) api.Tree {
	return api.Tree{Pages: each(t.Pages, page), Root: t.Root}
}

// Keys of a page.
func Keys(l [][]byte) [][]byte { return each(l, bytes.Clone) }

// each of a list's things, by what makes one anew.
func each[T any](l []T, one func(T) T) []T {
	out := make([]T, len(l))
	for i, x := range l {
		out[i] = one(x)
	}
	return out
}

// col of a table.
func col(c api.Col) api.Col {
	c.Name = strings.Clone(c.Name)
	return c
}

// val of a column.
func val(v api.Value) api.Value {
	v.Text = strings.Clone(v.Text)
	return v
}

// page of a tree.
func page(p api.Page) api.Page {
	p.Keys, p.Kids, p.High = Keys(p.Keys), slices.Clone(p.Kids), bytes.Clone(p.High)
	return p
}
