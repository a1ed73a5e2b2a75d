package base

import (
	"slices"

	"padlock/api"
	"padlock/fresh"
	"padlock/tree"
)

// Undo what was done to a table's rows since it was another one: they stand in its slots again, and the index is built anew.
func Undo(now, was api.Table, slots []int) (api.Table, api.Errno) {
	if !areOne(now, was) {
		return api.Table{}, api.ErrState
	}
	rows := slices.Clone(now.Rows)
	for _, slot := range slots {
		if slot < 0 || slot >= len(rows) {
			return api.Table{}, api.ErrRange
		}
		rows[slot] = rowAt(was, slot)
	}
	index, e := putKeys(tree.New(), rows, fullPlaces(rows))
	if e != api.OK {
		return api.Table{}, e
	}
	now.Rows, now.Index = rows, index
	return fresh.Table(now), api.OK
}

// Changed slots of a table, from one state to a later one.
func Changed(was, now api.Table) ([]int, api.Errno) {
	if !areOne(was, now) || len(now.Rows) < len(was.Rows) {
		return nil, api.ErrState
	}
	var l []int
	for i, row := range now.Rows {
		if i >= len(was.Rows) || !slices.Equal(row, was.Rows[i]) {
			l = append(l, i)
		}
	}
	return l, api.OK
}

// areOne: may both be, and may they be one table at two times?
func areOne(a, b api.Table) bool {
	return mayBe(a) && mayBe(b) && a.Name == b.Name && slices.Equal(a.Cols, b.Cols)
}

// rowAt a slot of a table; empty, if it has no such slot.
func rowAt(t api.Table, slot int) []api.Value {
	if slot < len(t.Rows) {
		return t.Rows[slot]
	}
	return nil
}
