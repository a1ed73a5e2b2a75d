package base

import (
	"slices"

	"padlock/api"
	"padlock/expr"
	"padlock/tree"
)

// insert a row behind all.
func insert(t api.Table, row []api.Value) (api.Table, api.Result, api.Errno) {
	if e := expr.Row(t.Cols, row); e != api.OK {
		return api.Table{}, api.Result{}, e
	}
	_, e := tree.Find(t.Index, keyOf(row))
	switch {
	case e == api.OK:
		return api.Table{}, api.Result{}, api.ErrTwice
	case len(t.Rows) == api.MaxSlots:
		return api.Table{}, api.Result{}, api.ErrFull
	}
	place := len(t.Rows)
	t.Rows = slices.Concat(t.Rows, [][]api.Value{row})
	t.Index, e = putKeys(t.Index, t.Rows, []int{place})
	return t, api.Result{Count: 1}, e
}

// remove the rows that are met: their slots stay empty.
func remove(t api.Table, where []api.Op) (api.Table, api.Result, api.Errno) {
	places, e := met(t, where)
	if e != api.OK {
		return api.Table{}, api.Result{}, e
	}
	t.Index, e = takeKeys(t.Index, t.Rows, places)
	t.Rows = slices.Clone(t.Rows)
	for _, place := range places {
		t.Rows[place] = nil
	}
	return t, api.Result{Count: len(places)}, e
}

// update the rows that are met.
func update(t api.Table, s api.Statement) (api.Table, api.Result, api.Errno) {
	column := columnOf(t, s.Set)
	if column < 0 {
		return api.Table{}, api.Result{}, api.ErrNone
	}
	kind, e := expr.Kind(t.Cols, s.To)
	switch {
	case e != api.OK:
		return api.Table{}, api.Result{}, e
	case kind != t.Cols[column].Kind && kind != api.Null:
		return api.Table{}, api.Result{}, api.ErrType
	}
	places, e := met(t, s.Where)
	if e != api.OK {
		return api.Table{}, api.Result{}, e
	}
	rows, e := reckoned(t, places, column, s.To)
	if e != api.OK {
		return api.Table{}, api.Result{}, e
	}
	if column == 0 {
		t.Index, e = moveKeys(t.Index, t.Rows, rows, places)
	}
	t.Rows = rows
	return t, api.Result{Count: len(places)}, e
}

// reckoned: all rows, where those at some places have in a column what an expression makes of them as they were.
func reckoned(t api.Table, places []int, column int, to []api.Op) ([][]api.Value, api.Errno) {
	rows := slices.Clone(t.Rows)
	for _, place := range places {
		v, e := expr.Eval(t.Cols, t.Rows[place], to)
		switch {
		case e != api.OK:
			return nil, e
		case column == 0 && v.Kind == api.Null:
			return nil, api.ErrType
		}
		rows[place] = slices.Clone(rows[place])
		rows[place][column] = v
	}
	return rows, api.OK
}

// moveKeys: the keys of the rows as they were go first, all of them, so that new ones may be what others were.
func moveKeys(index api.Tree, was, now [][]api.Value, places []int) (api.Tree, api.Errno) {
	index, e := takeKeys(index, was, places)
	if e != api.OK {
		return api.Tree{}, e
	}
	return putKeys(index, now, places)
}

// putKeys of the rows at some places, one by one.
func putKeys(index api.Tree, rows [][]api.Value, places []int) (api.Tree, api.Errno) {
	e := api.OK
	for _, place := range places {
		if index, e = tree.Insert(index, keyOf(rows[place]), place); e != api.OK {
			return api.Tree{}, e
		}
	}
	return index, api.OK
}

// takeKeys of the rows at some places, one by one.
func takeKeys(index api.Tree, rows [][]api.Value, places []int) (api.Tree, api.Errno) {
	e := api.OK
	for _, place := range places {
		if index, e = tree.Delete(index, keyOf(rows[place])); e != api.OK {
			return api.Tree{}, e
		}
	}
	return index, api.OK
}
