// Package value: values, and what is reckoned with them.
package value

import (
	"cmp"
	"math"

	"padlock/api"
)

// Check a value.
func Check(v api.Value) api.Errno {
	switch {
	case v.Kind < api.Null || v.Kind > api.Text:
		return api.ErrKind
	case v.Kind != api.Text && v.Text != "" || !numberMayBe(v):
		return api.ErrForm
	case len(v.Text) > api.MaxText:
		return api.ErrSize
	}
	return api.OK
}

// numberMayBe: may a value of its kind have its number?
func numberMayBe(v api.Value) bool {
	switch v.Kind {
	case api.Bool:
		return v.Int == 0 || v.Int == 1
	case api.Int:
		return true
	}
	return v.Int == 0
}

// Compare two values, of whatever kinds.
func Compare(a, b api.Value) (int, api.Errno) {
	if e := checkBoth([2]api.Value{a, b}); e != api.OK {
		return 0, e
	}
	return order(a, b), api.OK
}

// Two: what an op makes of two values.
func Two(kind int, a, b api.Value) (api.Value, api.Errno) {
	l := [2]api.Value{a, b}
	if e := checkBoth(l); e != api.OK {
		return api.Value{}, e
	}
	switch kind {
	case api.And:
		return join(l, 0)
	case api.Or:
		return join(l, 1)
	case api.Equal, api.Less:
		return hold(kind, l)
	case api.Add, api.Sub, api.Mul:
		return reckon(kind, l)
	}
	return api.Value{}, api.ErrKind
}

// One: what an op makes of a value.
func One(kind int, a api.Value) (api.Value, api.Errno) {
	if e := Check(a); e != api.OK {
		return api.Value{}, e
	}
	switch kind {
	case api.IsNull:
		return truth(a.Kind == api.Null), api.OK
	case api.Not:
		return turn(a)
	}
	return api.Value{}, api.ErrKind
}

// checkBoth: what is wrong with the first one is told ahead of the second one.
func checkBoth(l [2]api.Value) api.Errno {
	for _, v := range l {
		if e := Check(v); e != api.OK {
			return e
		}
	}
	return api.OK
}

// order of two values that may be. The kinds are numbered in their order, and a part that a kind does not use is empty
// in all values of that kind, so that part by part is enough.
func order(a, b api.Value) int {
	return cmp.Or(cmp.Compare(a.Kind, b.Kind), cmp.Compare(a.Int, b.Int), cmp.Compare(a.Text, b.Text))
}

// truth as a value.
func truth(is bool) api.Value {
	if is {
		return api.Value{Kind: api.Bool, Int: 1}
	}
	return api.Value{Kind: api.Bool}
}

// turn a truth round.
func turn(a api.Value) (api.Value, api.Errno) {
	switch a.Kind {
	case api.Null:
		return api.Value{}, api.OK
	case api.Bool:
		return truth(a.Int == 0), api.OK
	}
	return api.Value{}, api.ErrType
}

// knownAs: is each of the two of that kind, where it is known?
func knownAs(l [2]api.Value, kind int) bool {
	for _, v := range l {
		if v.Kind != kind && v.Kind != api.Null {
			return false
		}
	}
	return true
}

// unknown: is one of the two not known?
func unknown(l [2]api.Value) bool {
	for _, v := range l {
		if v.Kind == api.Null {
			return true
		}
	}
	return false
}

// join two truths: one that decides does so even if the other one is not known.
func join(l [2]api.Value, decides int) (api.Value, api.Errno) {
	if !knownAs(l, api.Bool) {
		return api.Value{}, api.ErrType
	}
	for _, v := range l {
		if v.Kind == api.Bool && v.Int == decides {
			return v, api.OK
		}
	}
	if unknown(l) {
		return api.Value{}, api.OK
	}
	return truth(decides == 0), api.OK
}

// hold two values against each other.
func hold(kind int, l [2]api.Value) (api.Value, api.Errno) {
	switch {
	case unknown(l):
		return api.Value{}, api.OK
	case l[0].Kind != l[1].Kind:
		return api.Value{}, api.ErrType
	}
	o := order(l[0], l[1])
	if kind == api.Less {
		return truth(o < 0), api.OK
	}
	return truth(o == 0), api.OK
}

// reckon with two numbers.
func reckon(kind int, l [2]api.Value) (api.Value, api.Errno) {
	switch {
	case !knownAs(l, api.Int):
		return api.Value{}, api.ErrType
	case unknown(l):
		return api.Value{}, api.OK
	}
	n, fits := compute(kind, l[0].Int, l[1].Int)
	if !fits {
		return api.Value{}, api.ErrOver
	}
	return api.Value{Kind: api.Int, Int: n}, api.OK
}

// compute a number, and whether it fits.
func compute(kind, a, b int) (int, bool) {
	switch kind {
	case api.Add:
		n := a + b
		return n, (n > a) == (b > 0) // what wraps round goes the wrong way
	case api.Sub:
		n := a - b
		return n, (n < a) == (b > 0)
	}
	return times(a, b)
}

// times: dividing tells whether a product fits, but not by 0, and not by -1, which leaves the least number as it is.
func times(a, b int) (int, bool) {
	switch a {
	case 0:
		return 0, true
	case -1:
		return -b, b != math.MinInt
	}
	n := a * b
	return n, n/a == b
}
