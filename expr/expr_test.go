package expr_test

import (
	"math"
	"strings"
	"testing"

	"padlock/api"
	"padlock/expr"
	"padlock/lex"
	"padlock/parse"
)

var (
	null = api.Value{}
	no   = api.Value{Kind: api.Bool}
	yes  = api.Value{Kind: api.Bool, Int: 1}
)

func num(n int) api.Value            { return api.Value{Kind: api.Int, Int: n} }
func str(s string) api.Value         { return api.Value{Kind: api.Text, Text: s} }
func row(l ...api.Value) []api.Value { return l }
func literal(v api.Value) api.Op     { return api.Op{Kind: api.Literal, Value: v} }
func column(name string) api.Op      { return api.Op{Kind: api.Column, Name: name} }
func op(kind int) api.Op             { return api.Op{Kind: kind} }
func ops(l ...api.Op) []api.Op       { return l }
func col(name string, k int) api.Col { return api.Col{Name: name, Kind: k} }
func cols(l ...api.Col) []api.Col    { return l }
func after(l ...[]api.Op) (o []api.Op) { // lists of ops, one behind the other
	for _, x := range l {
		o = append(o, x...)
	}
	return o
}

// table: the columns of most of these tests.
func table() []api.Col {
	return cols(col("id", api.Int), col("n", api.Int), col("s", api.Text), col("b", api.Bool))
}

// usual row of that table.
func usual() []api.Value { return row(num(3), num(-4), str("a"), yes) }

// where: the ops of an expression, as a statement tells it.
func where(s string) []api.Op {
	l, _, e := lex.Cut("DELETE FROM t WHERE " + s)
	if e != api.OK {
		panic(s)
	}
	x, _, e := parse.Parse(l)
	if e != api.OK {
		panic(s)
	}
	return x.Where
}

// wrongCols: columns that may not be.
func wrongCols() []struct {
	l    []api.Col
	want api.Errno
} {
	return []struct {
		l    []api.Col
		want api.Errno
	}{
		{nil, api.ErrSize},
		{cols(), api.ErrSize},
		{make([]api.Col, api.MaxValues+1), api.ErrSize},
		{append(table(), col("c", 1), col("d", 2), col("e", 3)), api.ErrSize},
		{make([]api.Col, 5000), api.ErrSize},

		{cols(col("a23456789", api.Int)), api.ErrSize},
		{append(table(), col("a23456789", 9)), api.ErrSize},
		{cols(col("", api.Int)), api.ErrForm},
		{cols(col("SELECT", api.Int)), api.ErrForm},
		{cols(col("1", api.Int)), api.ErrForm},
		{cols(col("a b", api.Int)), api.ErrForm},
		{append(table(), col("INT", 0)), api.ErrForm},

		{cols(col("id", api.Null)), api.ErrKind},
		{cols(col("id", 4)), api.ErrKind},
		{cols(col("id", -1)), api.ErrKind},
		{cols(col("id", math.MinInt)), api.ErrKind},
		{append(table(), col("id", 4)), api.ErrKind}, // ahead of ErrTwice
		{cols(col("id", 4), col("", 1)), api.ErrKind},

		{append(table(), col("id", api.Int)), api.ErrTwice},
		{append(table(), col("b", api.Text)), api.ErrTwice},
		{cols(col("id", 1), col("id", 1), col("", 1)), api.ErrTwice},
	}
}

// P7.1: columns that may be, and others; the other calls refuse these with the same error, whatever else is wrong.
func TestCols(t *testing.T) {
	for _, l := range [][]api.Col{
		table(), cols(col("a", api.Bool)), cols(col("a2345678", api.Text)), cols(col("t", api.Int)), cols(col("a", 1), col("A", 1)),
		cols(col("a", 1), col("b", 2), col("c", 3), col("d", 1), col("e", 2), col("_", 3)),
	} {
		if e := expr.Cols(l); e != api.OK {
			t.Errorf("Cols(%v) = %d", l, e)
		}
	}
	for _, c := range wrongCols() {
		if e := expr.Cols(c.l); e != c.want {
			t.Errorf("Cols(%v) = %d, want %d", c.l, e, c.want)
		}
		for _, r := range [][]api.Value{nil, usual(), row(null), row(api.Value{Kind: 9}), make([]api.Value, 9), make([]api.Value, len(c.l))} {
			wantRow(t, c.l, r, c.want)
			for _, o := range [][]api.Op{nil, where("id = 1"), where("1"), where("x"), ops(op(0)), make([]api.Op, api.MaxOps+1)} {
				wantKind(t, c.l, o, api.Null, c.want)
				wantEval(t, c.l, r, o, null, c.want)
				wantBounds(t, c.l, o, nil, nil, c.want)
			}
		}
	}
}

// P7.2
func TestRow(t *testing.T) {
	long := str(strings.Repeat("x", api.MaxText+1))
	for _, c := range []struct {
		row  []api.Value
		want api.Errno
	}{
		{usual(), api.OK},
		{row(num(0), null, null, null), api.OK},
		{row(num(math.MinInt), num(math.MaxInt), str(strings.Repeat("\x00", api.MaxText)), no), api.OK}, // no literal, but a value
		{row(num(math.MaxInt), num(math.MinInt), str(""), null), api.OK},

		{nil, api.ErrSize},
		{row(), api.ErrSize},
		{row(num(3)), api.ErrSize},
		{row(num(3), num(4), str("a")), api.ErrSize},
		{append(usual(), null), api.ErrSize},
		{make([]api.Value, 5000), api.ErrSize},
		{row(null, api.Value{Kind: 9}, long), api.ErrSize},
		{append(usual(), api.Value{Kind: 9}), api.ErrSize},

		{row(api.Value{Kind: 4}, null, null, null), api.ErrKind},
		{row(num(3), api.Value{Kind: -1}, null, null), api.ErrKind},
		{row(num(3), num(4), str("a"), api.Value{Kind: math.MaxInt}), api.ErrKind},
		{row(api.Value{Int: 1}, null, null, null), api.ErrForm}, // ahead of ErrType
		{row(num(3), api.Value{Kind: api.Int, Text: "a"}, null, null), api.ErrForm},
		{row(num(3), null, api.Value{Kind: api.Text, Int: 1}, null), api.ErrForm},
		{row(num(3), null, null, api.Value{Kind: api.Bool, Int: 2}), api.ErrForm},
		{row(num(3), null, long, null), api.ErrSize},
		{row(long, null, null, null), api.ErrSize},
		{row(num(3), num(4), str("a"), long), api.ErrSize},

		{row(null, num(4), str("a"), yes), api.ErrType},
		{row(null, null, null, null), api.ErrType},
		{row(yes, num(4), str("a"), yes), api.ErrType},
		{row(str("3"), num(4), str("a"), yes), api.ErrType},
		{row(num(3), no, str("a"), yes), api.ErrType},
		{row(num(3), str(""), str("a"), yes), api.ErrType},
		{row(num(3), num(4), num(0), yes), api.ErrType},
		{row(num(3), num(4), yes, yes), api.ErrType},
		{row(num(3), num(4), str("a"), num(1)), api.ErrType},
		{row(num(3), num(4), str("a"), str("")), api.ErrType},

		{row(null, api.Value{Kind: 4}, null, null), api.ErrType}, // value by value
		{row(num(3), no, long, null), api.ErrType},
		{row(num(3), num(4), str("a"), api.Value{Kind: 4}), api.ErrKind},
		{row(num(3), api.Value{Int: 1}, num(1), null), api.ErrForm},
		{row(num(3), null, long, api.Value{Kind: 4}), api.ErrSize},
	} {
		wantRow(t, table(), c.row, c.want)
		for _, o := range [][]api.Op{where("id"), where("NULL")} {
			if v, e := expr.Eval(table(), c.row, o); e != c.want || e != api.OK && v != null {
				t.Errorf("Eval(%v) = %v, %d, want %d", c.row, v, e, c.want)
			}
		}
		for _, o := range [][]api.Op{nil, where("x"), where("s + 1"), ops(op(0)), where("9223372036854775807 + 1")} {
			if c.want != api.OK {
				wantEval(t, table(), c.row, o, null, c.want)
			}
		}
	}
}

// P7.2: a value of each kind in a column of each kind, as the first one and behind it.
func TestRowKinds(t *testing.T) {
	for _, v := range row(null, yes, num(1), str("x")) {
		for kind := api.Bool; kind <= api.Text; kind++ {
			first, second := api.ErrType, api.ErrType
			if v.Kind == kind {
				first, second = api.OK, api.OK
			}
			if v.Kind == api.Null {
				second = api.OK
			}
			wantRow(t, cols(col("a", kind)), row(v), first)
			wantRow(t, cols(col("a", api.Int), col("b", kind)), row(num(0), v), second)
		}
	}
}

// P7.3: what Expression refuses, ahead of what is wrong with kinds.
func TestKindNoExpression(t *testing.T) {
	wrong := where("s + 1") // of the wrong kinds
	for _, c := range []struct {
		ops  []api.Op
		want api.Errno
	}{
		{nil, api.ErrShort},
		{ops(), api.ErrShort},
		{make([]api.Op, api.MaxOps+1), api.ErrFull},
		{make([]api.Op, 5000), api.ErrFull},
		{ops(op(0)), api.ErrKind},
		{ops(op(12)), api.ErrKind},
		{ops(op(-1)), api.ErrKind},
		{ops(literal(num(math.MinInt))), api.ErrRange},
		{ops(literal(api.Value{Kind: 4})), api.ErrKind},
		{ops(literal(api.Value{Kind: api.Bool, Int: 2})), api.ErrForm},
		{ops(literal(str(strings.Repeat("x", api.MaxText+1)))), api.ErrSize},
		{ops(api.Op{Kind: api.Literal, Name: "id"}), api.ErrForm},
		{ops(api.Op{Kind: api.Column, Name: "id", Value: no}), api.ErrForm},
		{ops(column("SELECT")), api.ErrForm},
		{ops(column("a23456789")), api.ErrSize},
		{ops(column("")), api.ErrForm},
		{ops(op(api.Not)), api.ErrShort},
		{ops(column("id"), op(api.Equal)), api.ErrShort},
		{ops(column("id"), column("id")), api.ErrShort},
	} {
		for _, l := range [][]api.Op{c.ops, after(where("x"), c.ops), after(wrong, c.ops), after(wrong, c.ops, wrong), after(c.ops, where("x"))} {
			want := parse.Expression(l)
			if want == api.OK {
				continue // what stands ahead makes it one
			}
			if len(l) == len(c.ops) && want != c.want {
				t.Errorf("%v: %d, want %d", l, want, c.want)
			}
			wantKind(t, table(), l, api.Null, want)
			wantEval(t, table(), usual(), l, null, want)
			if len(l) > 0 {
				wantBounds(t, table(), l, nil, nil, want)
			}
		}
	}
}

// P7.3: what each thing and each op makes.
func TestKind(t *testing.T) {
	for s, want := range map[string]int{
		"NULL": api.Null, "TRUE": api.Bool, "FALSE": api.Bool, "0": api.Int, "- 7": api.Int, "''": api.Text, "'x'": api.Text,
		"id": api.Int, "n": api.Int, "s": api.Text, "b": api.Bool,
		"n + 1 < 3": api.Bool, "id * n - NULL": api.Int, "NULL + NULL": api.Int, "NULL * 2": api.Int, "NULL = NULL": api.Bool, "NULL < s": api.Bool, "NULL AND NULL": api.Bool,
		"NOT NULL": api.Bool, "NULL IS NULL": api.Bool, "s IS NULL": api.Bool, "NOT b": api.Bool, "(NULL AND b) = (s = 'x')": api.Bool,
		"(s IS NOT NULL) OR (n + 2 = id) AND NOT b": api.Bool, "(b = b) < NULL": api.Bool, "((id)) - 1": api.Int,
	} {
		wantKind(t, table(), where(s), want, api.OK)
	}
	for s, want := range map[string]api.Errno{
		"x": api.ErrNone, "t": api.ErrNone, "ID": api.ErrNone, "i": api.ErrNone, "idd": api.ErrNone, "x IS NULL": api.ErrNone, "id = x": api.ErrNone, "x = 'a'": api.ErrNone, "NOT x": api.ErrNone,
		"s + 1": api.ErrType, "1 + s": api.ErrType, "b + 1": api.ErrType, "1 - b": api.ErrType, "s * NULL": api.ErrType, "NULL * s": api.ErrType, "s + s": api.ErrType, "b - b": api.ErrType, "'' + NULL": api.ErrType,
		"NOT id": api.ErrType, "NOT s": api.ErrType, "NOT 1": api.ErrType, "NOT (1 + NULL)": api.ErrType, "NOT (NULL + NULL)": api.ErrType,
		"id AND b": api.ErrType, "b AND id": api.ErrType, "b OR s": api.ErrType, "'x' OR TRUE": api.ErrType, "NULL AND 1": api.ErrType, "1 OR NULL": api.ErrType, "1 AND 1": api.ErrType, "FALSE AND 1": api.ErrType, "TRUE OR 1": api.ErrType,
		"id = s": api.ErrType, "id < b": api.ErrType, "1 = TRUE": api.ErrType, "'x' < 1": api.ErrType, "s = (NULL + NULL)": api.ErrType, "b < (NULL * n)": api.ErrType, "n = (NULL AND NULL)": api.ErrType, "n = (n IS NULL)": api.ErrType,
		"s + 1 = x": api.ErrType, "x = s + 1": api.ErrNone, "(NOT s) AND x": api.ErrType, "x AND NOT s": api.ErrNone, "(b = 1) = (x + 1)": api.ErrType, "(x + 1) = (b = 1)": api.ErrNone, "s = 1 + x": api.ErrNone, "x > s + 1": api.ErrType, // op by op, as they stand
	} {
		wantKind(t, table(), where(s), api.Null, want)
		wantEval(t, table(), usual(), where(s), null, want)
		wantBounds(t, table(), where(s), nil, nil, want)
	}
	wantKind(t, cols(col("s", api.Bool)), where("NOT s"), api.Bool, api.OK) // which kind it is hangs on the columns
	wantKind(t, cols(col("s", api.Bool)), where("id"), api.Null, api.ErrNone)
}

// P7.3: each op with things of each kind, in literals, in columns, and in what ops make.
func TestKindOfEach(t *testing.T) {
	things := [][]string{api.Null: {"NULL"}, api.Bool: {"TRUE", "b", "(NULL AND NULL)", "(NOT b)"}, api.Int: {"1", "id", "n", "(NULL + NULL)", "(n * 2)"}, api.Text: {"'x'", "s"}}
	said := func(ok bool, kind int) (int, api.Errno) {
		if ok {
			return kind, api.OK
		}
		return api.Null, api.ErrType
	}
	for a, l := range things {
		for _, x := range l {
			k, e := said(a != api.Int && a != api.Text, api.Bool)
			wantKind(t, table(), where("NOT "+x), k, e)
			wantKind(t, table(), where(x+" IS NULL"), api.Bool, api.OK)
		}
		for b, m := range things {
			for _, x := range l {
				for _, y := range m {
					for _, sign := range []string{"AND", "OR"} {
						k, e := said((a == api.Null || a == api.Bool) && (b == api.Null || b == api.Bool), api.Bool)
						wantKind(t, table(), where(x+" "+sign+" "+y), k, e)
					}
					for _, sign := range []string{"=", "<", ">", "<=", ">=", "<>"} {
						k, e := said(a == b || a == api.Null || b == api.Null, api.Bool)
						wantKind(t, table(), where(x+" "+sign+" "+y), k, e)
					}
					for _, sign := range []string{"+", "-", "*"} {
						k, e := said((a == api.Null || a == api.Int) && (b == api.Null || b == api.Int), api.Int)
						wantKind(t, table(), where(x+" "+sign+" "+y), k, e)
					}
				}
			}
		}
	}
}

// P7.4
func TestEval(t *testing.T) {
	for s, want := range map[string]api.Value{
		"NULL": null, "TRUE": yes, "FALSE": no, "5": num(5), "- 5": num(-5), "''": str(""), "'it''s'": str("it's"),
		"id": num(3), "n": num(-4), "s": str("a"), "b": yes,
		"id + n": num(-1), "id - n": num(7), "n - id": num(-7), "id * n": num(-12), "id + n * 2": num(-5), "(id + n) * 2": num(-2), "id - n - 1": num(6), "id - (n - 1)": num(8), "id + NULL": null, "NULL * 0": null,
		"id < n": no, "n < id": yes, "id > n": yes, "id = 3": yes, "id <> 3": no, "id >= 3": yes, "id <= 2": no, "s < 'b'": yes, "s = 'A'": no, "s < ''": no, "FALSE < b": yes, "b = TRUE": yes, "id = NULL": null, "NULL < s": null, "NULL <> NULL": null,
		"NOT b": no, "NOT NULL": null, "b AND id = 3": yes, "b AND NULL": null, "FALSE AND NULL": no, "NULL AND FALSE": no, "TRUE OR NULL": yes, "NULL OR TRUE": yes, "NULL OR FALSE": null, "FALSE OR id = 4": no,
		"n IS NULL": no, "n IS NOT NULL": yes, "NULL IS NULL": yes, "(n + NULL) IS NULL": yes, "(NULL = 1) IS NULL": yes, "(n + 1 < 0) = b": yes,
		"9223372036854775806 + 1": num(math.MaxInt), "- 9223372036854775807 - 1": num(math.MinInt), "(- 9223372036854775807 - 1) + 1": num(-math.MaxInt), "(- 9223372036854775807 - 1) * 1 < n": yes,
	} {
		wantEval(t, table(), usual(), where(s), want, api.OK)
	}
	r := row(num(math.MinInt), null, null, null)
	for s, want := range map[string]api.Value{
		"id": num(math.MinInt), "id + 0": num(math.MinInt), "id < - 9223372036854775807": yes, "n": null, "n + 1": null, "n = n": null, "s": null, "s < 'a'": null, "b": null, "NOT b": null, "b AND FALSE": no, "b OR b": null, "s IS NULL": yes, "NOT n IS NULL": no, "id - id": num(0),
	} {
		wantEval(t, table(), r, where(s), want, api.OK)
	}
	most := str(strings.Repeat("\xff", api.MaxText))
	wantEval(t, cols(col("a", api.Text)), row(most), where("a"), most, api.OK)
	wantEval(t, cols(col("a", api.Text)), row(most), ops(literal(most)), most, api.OK)
	wantEval(t, cols(col("a", api.Int), col("b", 2), col("c", 2), col("d", 2), col("e", 2), col("f", 2)), row(num(1), num(2), num(3), num(4), num(5), num(6)), where("a + 2 * (b + 2 * (c + 2 * (d + 2 * (e + 2 * f))))"), num(321), api.OK)
}

// P7.4: ErrOver, even where what is made would not matter, and behind all that Row and Kind refuse.
func TestEvalOver(t *testing.T) {
	r := row(num(math.MinInt), num(math.MaxInt), null, no)
	for _, s := range []string{
		"n + 1", "1 + n", "id - 1", "id + id", "n + n", "n * 2", "n * n", "id * - 1", "- 1 * id", "0 - id", "id - n", "n - id", "n + 1 - 1", "(n + 1) * 0", "9223372036854775807 + 1", "3037000500 * 3037000500",
		"FALSE AND n + 1 = 0", "TRUE OR n + 1 = 0", "n + 1 IS NULL", "n + 1 = NULL", "(n + 1) * NULL", "NULL * (n + 1)", "b AND id - 1 < 0", "(b OR n + 1 = id) IS NULL",
	} {
		wantEval(t, table(), r, where(s), null, api.ErrOver)
		if e := kindError(table(), where(s)); e != api.OK {
			t.Errorf("Kind(%s) = %d", s, e)
		}
		for _, other := range []string{"x", "id = x", "x IS NULL"} {
			wantEval(t, table(), r, where("("+s+") IS NULL AND ("+other+") IS NULL"), null, api.ErrNone)
		}
		wantEval(t, table(), r, where("("+s+") IS NULL AND s + 1 = 2"), null, api.ErrType)
		wantEval(t, table(), r, after(where(s), ops(op(0))), null, api.ErrKind)
		wantEval(t, table(), r, after(where(s), where(s)), null, api.ErrShort)
		wantEval(t, table(), r[:3], where(s), null, api.ErrSize)
		wantEval(t, table(), row(null, null, null, null), where(s), null, api.ErrType)
	}
}

// kindError: what Kind refuses.
func kindError(l []api.Col, o []api.Op) api.Errno {
	_, e := expr.Kind(l, o)
	return e
}

// P7.3, P7.4: expressions of as many ops as may be, nested to the left and to the right.
func TestLongest(t *testing.T) {
	many := strings.Repeat
	for s, want := range map[string]api.Value{
		"1" + many(" + 1", 19):                          num(20),
		many("NOT ", 39) + "b":                          no,
		many("NOT ", 38) + "b":                          yes,
		"b" + many(" AND b", 17) + " AND NOT NOT NOT b": no,
	} {
		wantEval(t, table(), usual(), where(s), want, api.OK)
	}
	var l []api.Op
	for n := range 20 {
		l = append(l, literal(num(n)))
	}
	for range 19 {
		l = append(l, op(api.Sub))
	}
	wantEval(t, table(), usual(), l, num(-10), api.OK) // 0 - (1 - (2 - (.. - 19)))
	l = append(l, op(api.IsNull))
	wantEval(t, table(), usual(), l, no, api.OK)
	wantEval(t, table(), usual(), append(l, op(api.Not)), null, api.ErrFull)
	wantKind(t, table(), append(l, op(api.Not)), api.Null, api.ErrFull)
}

func wantRow(t *testing.T, l []api.Col, r []api.Value, want api.Errno) {
	t.Helper()
	if e := expr.Row(l, r); e != want {
		t.Errorf("Row(%v, %v) = %d, want %d", l, r, e, want)
	}
}

func wantKind(t *testing.T, l []api.Col, o []api.Op, want int, wanted api.Errno) {
	t.Helper()
	if k, e := expr.Kind(l, o); k != want || e != wanted {
		t.Errorf("Kind(%v, %v) = %d, %d, want %d, %d", l, o, k, e, want, wanted)
	}
}

func wantEval(t *testing.T, l []api.Col, r []api.Value, o []api.Op, want api.Value, wanted api.Errno) {
	t.Helper()
	if v, e := expr.Eval(l, r, o); v != want || e != wanted {
		t.Errorf("Eval(%v, %v, %v) = %v, %d, want %v, %d", l, r, o, v, e, want, wanted)
	}
}
