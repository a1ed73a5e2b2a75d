package parse

import (
	"math"

	"padlock/api"
	"padlock/value"
)

// worksOn: on how many an op of each kind does.
var worksOn = [...]int{
	api.Literal: 0, api.Column: 0,
	api.Not: 1, api.IsNull: 1,
	api.And: 2, api.Or: 2, api.Equal: 2, api.Less: 2, api.Add: 2, api.Sub: 2, api.Mul: 2,
}

// Expression: may ops be one?
func Expression(l []api.Op) api.Errno {
	if len(l) > api.MaxOps {
		return api.ErrFull
	}
	left := 0
	for _, o := range l {
		if e := checkOp(o); e != api.OK {
			return e
		}
		if left < worksOn[o.Kind] {
			return api.ErrShort
		}
		left += 1 - worksOn[o.Kind]
	}
	if left != 1 {
		return api.ErrShort
	}
	return api.OK
}

// checkOp: whatever stands ahead of it.
func checkOp(o api.Op) api.Errno {
	if o.Kind < api.Literal || o.Kind > api.IsNull {
		return api.ErrKind
	}
	if e := checkLiteral(o.Value); e != api.OK {
		return e
	}
	if o.Kind != api.Literal && o.Value != (api.Value{}) || o.Kind != api.Column && o.Name != "" {
		return api.ErrForm
	}
	if o.Kind == api.Column {
		return Name(o.Name)
	}
	return api.OK
}

// checkLiteral: the least Int can't be told: the number behind its - would be too great.
func checkLiteral(v api.Value) api.Errno {
	if v.Kind == api.Int && v.Int == math.MinInt {
		return api.ErrRange
	}
	return value.Check(v)
}

// Check a statement.
func Check(s api.Statement) api.Errno {
	if s.Kind < api.Create || s.Kind > api.Rollback {
		return api.ErrKind
	}
	if s.Kind <= api.Delete {
		if e := Name(s.Table); e != api.OK {
			return e
		}
	}
	if e := checkParts(s); e != api.OK {
		return e
	}
	if hasMore(s) {
		return api.ErrForm
	}
	if len(show(s)) > api.MaxTokens {
		return api.ErrFull
	}
	return api.OK
}

// checkParts that a statement of its kind has, but for the table.
func checkParts(s api.Statement) api.Errno {
	switch s.Kind {
	case api.Create:
		return checkCols(s.Cols)
	case api.Insert:
		return checkRow(s.Row)
	case api.Select:
		return checkSelect(s)
	case api.Update:
		return firstOf(Name(s.Set), Expression(s.To), checkWhere(s.Where))
	case api.Delete:
		return checkWhere(s.Where)
	}
	return api.OK
}

// firstOf some errors; OK: there is none.
func firstOf(l ...api.Errno) api.Errno {
	for _, e := range l {
		if e != api.OK {
			return e
		}
	}
	return api.OK
}

// checkCols of a table.
func checkCols(l []api.Col) api.Errno {
	if len(l) < 1 || len(l) > api.MaxValues {
		return api.ErrSize
	}
	for i, c := range l {
		if e := Name(c.Name); e != api.OK {
			return e
		}
		if c.Kind != api.Bool && c.Kind != api.Int && c.Kind != api.Text {
			return api.ErrKind
		}
		if hasColumn(l[:i], c.Name) {
			return api.ErrTwice
		}
	}
	return api.OK
}

// checkRow that is inserted.
func checkRow(l []api.Value) api.Errno {
	if len(l) < 1 || len(l) > api.MaxValues {
		return api.ErrSize
	}
	for _, v := range l {
		if e := checkLiteral(v); e != api.OK {
			return e
		}
	}
	return api.OK
}

// checkSelect: the parts of one.
func checkSelect(s api.Statement) api.Errno {
	switch {
	case len(s.Names) > api.MaxValues:
		return api.ErrSize
	case s.Limit < -1:
		return api.ErrRange
	case s.Count && len(s.Names) > 0 || s.Down && s.Order == "":
		return api.ErrForm
	}
	for _, name := range s.Names {
		if e := Name(name); e != api.OK {
			return e
		}
	}
	if e := checkWhere(s.Where); e != api.OK {
		return e
	}
	if s.Order != "" {
		return Name(s.Order)
	}
	return api.OK
}

// checkWhere: there may be none.
func checkWhere(l []api.Op) api.Errno {
	if len(l) == 0 {
		return api.OK
	}
	return Expression(l)
}

// hasMore: has it something that its kind has not? What its kind has is left out of the copy that is at hand here.
func hasMore(s api.Statement) bool {
	if s.Kind <= api.Delete {
		s.Table = ""
	}
	switch s.Kind {
	case api.Create:
		s.Cols = nil
	case api.Insert:
		s.Row = nil
	case api.Select:
		s.Names, s.Count, s.Where, s.Order, s.Down, s.Limit = nil, false, nil, "", false, -1
	case api.Update:
		s.Set, s.To, s.Where = "", nil, nil
	case api.Delete:
		s.Where = nil
	}
	return s.Table+s.Order+s.Set != "" || len(s.Cols)+len(s.Row)+len(s.Names)+len(s.Where)+len(s.To) > 0 ||
		s.Count || s.Down || s.Limit != -1
}
