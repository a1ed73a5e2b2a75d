package expr

import (
	"bytes"

	"padlock/api"
	"padlock/codec"
)

// span of keys; an empty one is no bound.
type span struct{ low, high []byte }

// part of an expression, and what it says of the first column.
type part struct {
	first bool   // it is that column
	key   []byte // of the Literal that it is; empty: it is Null, or no Literal
	holds span   // where rows lie of which it is true
	fails span   // where rows lie of which it is false; told of a Less alone
}

// Bounds of the keys of rows of which an expression may be true.
func Bounds(l []api.Col, ops []api.Op) (low, high []byte, e api.Errno) {
	if len(ops) == 0 {
		return nil, nil, Cols(l)
	}
	kind, e := Kind(l, ops)
	switch {
	case e != api.OK:
		return nil, nil, e
	case !knownAs(kind, api.Bool):
		return nil, nil, api.ErrType
	}
	whole, e := fold(ops, func(o api.Op) (part, api.Errno) {
		if o.Kind == api.Literal && o.Value.Kind != api.Null {
			key, e := codec.Encode([]api.Value{o.Value})
			return part{key: key}, e
		}
		return part{first: o.Kind == api.Column && o.Name == l[0].Name}, api.OK
	}, sayOne, sayTwo)
	return whole.holds.low, bytes.Clone(whole.holds.high), e // an Equal has one key for both
}

// sayOne: what an op of one part says.
func sayOne(op int, a part) (part, api.Errno) {
	if op == api.Not {
		return part{holds: a.fails}, api.OK
	}
	return part{}, api.OK
}

// sayTwo: what an op of two parts says.
func sayTwo(op int, a, b part) (part, api.Errno) {
	switch {
	case op == api.And:
		return part{holds: within(a.holds, b.holds)}, api.OK
	case op == api.Equal && a.first:
		return part{holds: span{b.key, b.key}}, api.OK
	case op == api.Equal && b.first:
		return part{holds: span{a.key, a.key}}, api.OK
	case op == api.Less && a.first:
		return part{holds: span{high: b.key}, fails: span{low: b.key}}, api.OK
	case op == api.Less && b.first:
		return part{holds: span{low: a.key}, fails: span{high: a.key}}, api.OK
	}
	return part{}, api.OK
}

// within both of two spans.
func within(a, b span) span {
	if bytes.Compare(a.low, b.low) < 0 {
		a.low = b.low
	}
	if len(a.high) == 0 || len(b.high) > 0 && bytes.Compare(b.high, a.high) < 0 {
		a.high = b.high
	}
	return a
}
