package session

import (
	"iter"
	"slices"

	"padlock/api"
	"padlock/base"
)

// change that a statement made.
type change struct {
	kind  int       // of the statement
	place int       // of the table
	was   api.Table // the table ahead of the statement; empty, if that made it
	slots []int     // whose rows it changed
}

// changeOf a statement that is no Begin, Commit or Rollback, from the base ahead of it to that behind it.
func changeOf(x api.Statement, was, now api.Base) change {
	if x.Kind == api.Create {
		return change{kind: x.Kind, place: len(was.Tables)}
	}
	place := slices.IndexFunc(was.Tables, func(t api.Table) bool { return t.Name == x.Table })
	c := change{kind: x.Kind, place: place, was: was.Tables[place]}
	if x.Kind != api.Drop {
		c.slots, _ = base.Changed(c.was, now.Tables[place]) // one table at two times: nothing is refused
	}
	return c
}

// undo a change. What its transaction did behind that has been undone, and its locks have kept others from doing anything
// to the list of tables, so that places are what they were, and from its keys, so that Undo refuses nothing.
func (c change) undo(tables []api.Table) []api.Table {
	switch {
	case c.kind == api.Create:
		return slices.Delete(tables, c.place, c.place+1)
	case c.kind == api.Drop:
		return slices.Insert(tables, c.place, c.was)
	case len(c.slots) > 0:
		tables[c.place], _ = base.Undo(tables[c.place], c.was, c.slots)
	}
	return tables
}

// lastFirst: changes, from the last one on.
func lastFirst(l []change) iter.Seq[change] {
	return func(yield func(change) bool) {
		for i := len(l) - 1; i >= 0; i-- {
			if !yield(l[i]) {
				return
			}
		}
	}
}
