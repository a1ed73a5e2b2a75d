package base

import (
	"slices"

	"padlock/api"
	"padlock/value"
)

// choose rows of a table, as a Select tells.
func choose(t api.Table, s api.Statement) (api.Result, api.Errno) {
	columns, order, e := columnsOf(t, s)
	if e != api.OK {
		return api.Result{}, e
	}
	places, e := met(t, s.Where)
	if e != api.OK {
		return api.Result{}, e
	}
	rows := rowsAt(t, places)
	slices.SortStableFunc(rows, func(a, b []api.Value) int { // stable: they stand in the order of their keys
		if s.Down {
			a, b = b, a
		}
		o, _ := value.Compare(a[order], b[order])
		return o
	})
	if s.Limit >= 0 && len(rows) > s.Limit {
		rows = rows[:s.Limit]
	}
	if s.Count {
		number := api.Value{Kind: api.Int, Int: len(rows)}
		return api.Result{Rows: [][]api.Value{{number}}, Count: len(rows)}, api.OK
	}
	return api.Result{Rows: pick(rows, columns), Count: len(rows)}, api.OK
}

// columnsOf a Select: the places of those that it shows, and of that by which it orders.
func columnsOf(t api.Table, s api.Statement) (columns []int, order int, e api.Errno) {
	for _, name := range s.Names {
		columns = append(columns, columnOf(t, name))
	}
	if len(s.Names) == 0 {
		for i := range t.Cols {
			columns = append(columns, i)
		}
	}
	if s.Order != "" {
		order = columnOf(t, s.Order)
	}
	if order < 0 || slices.Contains(columns, -1) {
		return nil, 0, api.ErrNone
	}
	return columns, order, api.OK
}

// pick the values of some columns of each row.
func pick(rows [][]api.Value, columns []int) [][]api.Value {
	var l [][]api.Value
	for _, row := range rows {
		var picked []api.Value
		for _, column := range columns {
			picked = append(picked, row[column])
		}
		l = append(l, picked)
	}
	return l
}
