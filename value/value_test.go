package value_test

import (
	"math"
	"math/big"
	"strings"
	"testing"

	"padlock/api"
	"padlock/value"
)

var (
	null = api.Value{}
	no   = api.Value{Kind: api.Bool}
	yes  = api.Value{Kind: api.Bool, Int: 1}

	badKind = api.Value{Kind: 9}
	badForm = api.Value{Kind: api.Bool, Int: 2}
	badSize = api.Value{Kind: api.Text, Text: strings.Repeat("x", api.MaxText+1)}
)

func number(n int) api.Value  { return api.Value{Kind: api.Int, Int: n} }
func text(s string) api.Value { return api.Value{Kind: api.Text, Text: s} }

// rising: values that may be, each of them ahead of the next one.
func rising() []api.Value {
	return []api.Value{
		null, no, yes,
		number(math.MinInt), number(math.MinInt + 1), number(-1), number(0), number(1), number(math.MaxInt),
		text(""), text("\x00"), text("A"), text("a"), text("a\x00"), text("a\x00b"), text("ab"), text("b"), text("é"),
		text(strings.Repeat("\xff", api.MaxText-1)), text(strings.Repeat("\xff", api.MaxText)),
	}
}

// reason: an answer to two values, and what is wrong with them.
type reason struct {
	a, b api.Value
	want api.Errno
}

// refusals: of two values of which at least one may not be, and what is told of them.
func refusals() []reason {
	return []reason{
		{badKind, null, api.ErrKind}, {null, badKind, api.ErrKind},
		{badForm, yes, api.ErrForm}, {yes, badForm, api.ErrForm},
		{badSize, text("a"), api.ErrSize}, {text("a"), badSize, api.ErrSize},
		{badKind, badForm, api.ErrKind}, {badForm, badKind, api.ErrForm},
		{badSize, badForm, api.ErrSize}, {badForm, badSize, api.ErrForm},
		{number(1), badSize, api.ErrSize}, {badSize, number(1), api.ErrSize},
	}
}

// P1.1
func TestCheck(t *testing.T) {
	long := strings.Repeat("x", api.MaxText+1)
	for _, c := range []struct {
		v    api.Value
		want api.Errno
	}{
		{api.Value{Kind: -1}, api.ErrKind},
		{api.Value{Kind: api.Text + 1}, api.ErrKind},
		{api.Value{Kind: math.MinInt}, api.ErrKind},
		{api.Value{Kind: math.MaxInt}, api.ErrKind},
		{api.Value{Kind: 4, Int: 7, Text: long}, api.ErrKind},

		{api.Value{Kind: api.Null, Text: "a"}, api.ErrForm},
		{api.Value{Kind: api.Bool, Text: "a"}, api.ErrForm},
		{api.Value{Kind: api.Int, Text: "a"}, api.ErrForm},
		{api.Value{Kind: api.Int, Int: 5, Text: "\x00"}, api.ErrForm},
		{api.Value{Kind: api.Null, Int: 1}, api.ErrForm},
		{api.Value{Kind: api.Null, Int: -1}, api.ErrForm},
		{api.Value{Kind: api.Bool, Int: 2}, api.ErrForm},
		{api.Value{Kind: api.Bool, Int: -1}, api.ErrForm},
		{api.Value{Kind: api.Bool, Int: math.MinInt}, api.ErrForm},
		{api.Value{Kind: api.Text, Int: 1}, api.ErrForm},
		{api.Value{Kind: api.Text, Int: -1, Text: "a"}, api.ErrForm},
		{api.Value{Kind: api.Text, Int: 1, Text: long}, api.ErrForm},
		{api.Value{Kind: api.Null, Text: long}, api.ErrForm},
		{api.Value{Kind: api.Int, Text: long}, api.ErrForm},

		{text(long), api.ErrSize},
		{text(strings.Repeat("x", 1000)), api.ErrSize},
		{text(strings.Repeat("é", api.MaxText/2) + "x"), api.ErrSize}, // bytes are counted, not letters
		{text(strings.Repeat("é", api.MaxText/2)), api.OK},
	} {
		if e := value.Check(c.v); e != c.want {
			t.Errorf("Check(%#v) = %d, want %d", c.v, e, c.want)
		}
	}
	for _, v := range rising() {
		if e := value.Check(v); e != api.OK {
			t.Errorf("Check(%#v) = %d, want OK", v, e)
		}
	}
}

// P1.1: the other calls refuse what Check refuses, the first value first, ahead of what they say of the op.
func TestRefusals(t *testing.T) {
	for _, c := range refusals() {
		if n, e := value.Compare(c.a, c.b); n != 0 || e != c.want {
			t.Errorf("Compare(%#v, %#v) = %d, %d, want 0, %d", c.a, c.b, n, e, c.want)
		}
		for kind := -1; kind <= 13; kind++ {
			if v, e := value.Two(kind, c.a, c.b); v != null || e != c.want {
				t.Errorf("Two(%d, %#v, %#v) = %#v, %d, want %d", kind, c.a, c.b, v, e, c.want)
			}
		}
	}
	for kind := -1; kind <= 13; kind++ {
		for _, a := range []api.Value{badKind, badForm, badSize} {
			if v, e := value.One(kind, a); v != null || e != value.Check(a) {
				t.Errorf("One(%d, %#v) = %#v, %d, want %d", kind, a, v, e, value.Check(a))
			}
		}
	}
}

// P1.2
func TestCompare(t *testing.T) {
	l := rising()
	for i, a := range l {
		for j, b := range l {
			want := 0
			switch {
			case i < j:
				want = -1
			case i > j:
				want = 1
			}
			if n, e := value.Compare(a, b); n != want || e != api.OK {
				t.Errorf("Compare(%#v, %#v) = %d, %d, want %d", a, b, n, e, want)
			}
		}
	}
}

// P1.3: And, Or.
func TestJoin(t *testing.T) {
	for _, c := range []struct{ a, b, and, or api.Value }{
		{no, no, no, no}, {no, yes, no, yes}, {yes, no, no, yes}, {yes, yes, yes, yes},
		{null, no, no, null}, {no, null, no, null}, {null, yes, null, yes}, {yes, null, null, yes}, {null, null, null, null},
	} {
		wantTwo(t, api.And, c.a, c.b, c.and, api.OK)
		wantTwo(t, api.Or, c.a, c.b, c.or, api.OK)
	}
	for _, other := range []api.Value{number(0), number(1), text(""), text("a")} {
		for _, v := range []api.Value{null, no, yes, number(0), text("")} {
			for _, kind := range []int{api.And, api.Or} {
				wantTwo(t, kind, v, other, null, api.ErrType)
				wantTwo(t, kind, other, v, null, api.ErrType)
			}
		}
	}
}

// P1.3: Equal, Less.
func TestHold(t *testing.T) {
	l := rising()
	for i, a := range l {
		for j, b := range l {
			equal, less, e := no, no, api.OK
			switch {
			case a.Kind == api.Null || b.Kind == api.Null:
				equal, less = null, null
			case a.Kind != b.Kind:
				equal, less, e = null, null, api.ErrType
			case i == j:
				equal = yes
			case i < j:
				less = yes
			}
			wantTwo(t, api.Equal, a, b, equal, e)
			wantTwo(t, api.Less, a, b, less, e)
		}
	}
}

// P1.3: Add, Sub, Mul, held against numbers without bounds.
func TestReckon(t *testing.T) {
	l := []int{0, 1, 2, 3, 7, 1<<31 - 1, 1 << 31, 1<<31 + 1, 1 << 32, 3037000499, 3037000500, 1<<62 - 1, 1 << 62, 1<<62 + 1, math.MaxInt - 1, math.MaxInt, math.MinInt, math.MinInt + 1}
	for _, n := range l {
		l = append(l, -n)
	}
	ops := map[int]func(z, x, y *big.Int) *big.Int{api.Add: (*big.Int).Add, api.Sub: (*big.Int).Sub, api.Mul: (*big.Int).Mul}
	for kind, op := range ops {
		for _, a := range l {
			for _, b := range l {
				want, e := null, api.ErrOver
				if n := op(new(big.Int), big.NewInt(int64(a)), big.NewInt(int64(b))); n.IsInt64() {
					want, e = number(int(n.Int64())), api.OK
				}
				wantTwo(t, kind, number(a), number(b), want, e)
			}
		}
	}
}

// P1.3: Add, Sub, Mul of what is not known or no number.
func TestReckonKinds(t *testing.T) {
	for _, kind := range []int{api.Add, api.Sub, api.Mul} {
		wantTwo(t, kind, null, null, null, api.OK)
		for _, n := range []int{0, 1, math.MinInt, math.MaxInt} {
			wantTwo(t, kind, null, number(n), null, api.OK)
			wantTwo(t, kind, number(n), null, null, api.OK)
		}
		for _, other := range []api.Value{no, yes, text(""), text("1")} {
			for _, v := range []api.Value{null, no, number(0), number(math.MaxInt), text("1")} {
				wantTwo(t, kind, v, other, null, api.ErrType)
				wantTwo(t, kind, other, v, null, api.ErrType)
			}
		}
	}
}

// P1.3: no other op has two.
func TestTwoKinds(t *testing.T) {
	for _, kind := range []int{math.MinInt, -1, 0, api.Literal, api.Column, api.Not, api.IsNull, 12, math.MaxInt} {
		for _, a := range rising() {
			wantTwo(t, kind, a, null, null, api.ErrKind)
			wantTwo(t, kind, yes, a, null, api.ErrKind)
			wantTwo(t, kind, a, a, null, api.ErrKind)
		}
	}
}

// P1.4
func TestOne(t *testing.T) {
	for _, v := range rising() {
		is := no
		if v == null {
			is = yes
		}
		wantOne(t, api.IsNull, v, is, api.OK)
	}
	wantOne(t, api.Not, null, null, api.OK)
	wantOne(t, api.Not, no, yes, api.OK)
	wantOne(t, api.Not, yes, no, api.OK)
	for _, v := range []api.Value{number(0), number(1), number(math.MinInt), text(""), text("a")} {
		wantOne(t, api.Not, v, null, api.ErrType)
	}
	for _, kind := range []int{math.MinInt, -1, 0, api.Literal, api.Column, api.And, api.Or, api.Equal, api.Less, api.Add, api.Sub, api.Mul, 12, math.MaxInt} {
		for _, v := range rising() {
			wantOne(t, kind, v, null, api.ErrKind)
		}
	}
}

func wantTwo(t *testing.T, kind int, a, b, want api.Value, e api.Errno) {
	t.Helper()
	if v, f := value.Two(kind, a, b); v != want || f != e {
		t.Errorf("Two(%d, %#v, %#v) = %#v, %d, want %#v, %d", kind, a, b, v, f, want, e)
	}
}

func wantOne(t *testing.T, kind int, a, want api.Value, e api.Errno) {
	t.Helper()
	if v, f := value.One(kind, a); v != want || f != e {
		t.Errorf("One(%d, %#v) = %#v, %d, want %#v, %d", kind, a, v, f, want, e)
	}
}
