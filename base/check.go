package base

import (
	"bytes"

	"padlock/api"
	"padlock/codec"
	"padlock/expr"
	"padlock/parse"
	"padlock/tree"
)

// Check a base.
func Check(b api.Base) api.Errno {
	if len(b.Tables) > api.MaxTables {
		return api.ErrState
	}
	for i, t := range b.Tables {
		if placeOf(b.Tables[:i], t.Name) >= 0 || !mayBe(t) {
			return api.ErrState
		}
	}
	return api.OK
}

// mayBe: may it be a table?
func mayBe(t api.Table) bool {
	return parse.Name(t.Name) == api.OK && expr.Cols(t.Cols) == api.OK && rowsMayBe(t) && indexMayBe(t)
}

// rowsMayBe: are there not too many, and is each empty or in form?
func rowsMayBe(t api.Table) bool {
	if len(t.Rows) > api.MaxSlots {
		return false
	}
	for _, row := range t.Rows {
		if len(row) > 0 && expr.Row(t.Cols, row) != api.OK {
			return false
		}
	}
	return true
}

// indexMayBe: does it lead to all rows that are not empty, each by its key? Its keys differ, so that no two lead to one
// row, and it is enough that they are as many.
func indexMayBe(t api.Table) bool {
	entries, e := tree.Scan(t.Index, nil, nil)
	if e != api.OK || len(entries) != len(fullPlaces(t.Rows)) {
		return false
	}
	for _, x := range entries {
		if x.Row >= len(t.Rows) || len(t.Rows[x.Row]) == 0 || !bytes.Equal(x.Key, keyOf(t.Rows[x.Row])) {
			return false
		}
	}
	return true
}

// fullPlaces: those of the rows that are not empty.
func fullPlaces(rows [][]api.Value) []int {
	var l []int
	for i, row := range rows {
		if len(row) > 0 {
			l = append(l, i)
		}
	}
	return l
}

// keyOf a row that may be: no value has a longer key than may be.
func keyOf(row []api.Value) []byte {
	key, _ := codec.Encode(row[:1])
	return key
}
