package parse_test

import (
	"math"
	"strconv"
	"strings"
	"testing"

	"padlock/api"
	"padlock/parse"
)

// short: how ops are told in these tests.
var short = map[string]int{
	"and": api.And, "or": api.Or, "not": api.Not, "eq": api.Equal, "lt": api.Less, "add": api.Add, "sub": api.Sub, "mul": api.Mul, "null?": api.IsNull,
}

// told: ops of a text: their short names, numbers, texts behind a ', values, and names of columns.
func told(s string) []api.Op {
	var l []api.Op
	for _, f := range strings.Fields(s) {
		n, err := strconv.Atoi(f)
		switch {
		case short[f] > 0:
			l = append(l, op(short[f]))
		case err == nil:
			l = append(l, literal(num(n)))
		case f[0] == '\'':
			l = append(l, literal(str(f[1:])))
		case f == "yes":
			l = append(l, literal(yes))
		case f == "no":
			l = append(l, literal(no))
		case f == "null":
			l = append(l, literal(null))
		default:
			l = append(l, column(f))
		}
	}
	return l
}

// wantOps: an expression is these ops, wherever it stands.
func wantOps(t *testing.T, s, want string) {
	t.Helper()
	where, to := told(want), told(want)
	wantParsed(t, "DELETE FROM t WHERE "+s, api.Statement{Kind: api.Delete, Table: "t", Where: where, Limit: -1})
	wantParsed(t, "SELECT * FROM t WHERE "+s+" ORDER BY a LIMIT 1", api.Statement{Kind: api.Select, Table: "t", Where: where, Order: "a", Limit: 1})
	wantParsed(t, "UPDATE t SET z = "+s, api.Statement{Kind: api.Update, Table: "t", Set: "z", To: to, Limit: -1})
	wantParsed(t, "UPDATE t SET z = "+s+" WHERE "+s, api.Statement{Kind: api.Update, Table: "t", Set: "z", To: to, Where: where, Limit: -1})
	if e := parse.Expression(where); e != api.OK {
		t.Errorf("Expression(%s) = %d", want, e)
	}
}

// P6.3: things.
func TestThings(t *testing.T) {
	for s, want := range map[string]string{
		"a": "a", "a2345678": "a2345678", "_": "_", "0": "0", "12": "12", "9223372036854775807": "9223372036854775807",
		"- 1": "-1", "-1": "-1", "- 0": "0", "-9223372036854775807": "-9223372036854775807", "''": "'", "'x'": "'x", "'NOT'": "'NOT", "'('": "'(",
		"NULL": "null", "TRUE": "yes", "FALSE": "no", "(a)": "a", "((((a))))": "a", "(1)": "1", "(- 1)": "-1", "('x')": "'x", "(NULL)": "null",
	} {
		wantOps(t, s, want)
	}
	wantParsed(t, "DELETE FROM t WHERE null", api.Statement{Kind: api.Delete, Table: "t", Where: ops(column("null")), Limit: -1}) // small letters make a name
}

// P6.3: each comparison.
func TestComparisons(t *testing.T) {
	for s, want := range map[string]string{
		"a = b": "a b eq", "a < b": "a b lt", "a <> b": "a b eq not", "a >= b": "a b lt not", "a > b": "b a lt", "a <= b": "b a lt not",
		"a IS NULL": "a null?", "a IS NOT NULL": "a null? not", "NULL IS NULL": "null null?", "1 IS NOT NULL": "1 null? not", "(a = b) IS NULL": "a b eq null?",
		"a + b > c * d":            "c d mul a b add lt",
		"a + b <= c * d - 1":       "c d mul 1 sub a b add lt not",
		"a - 1 >= - 1":             "a 1 sub -1 lt not",
		"a + 1 = b - 2":            "a 1 add b 2 sub eq",
		"a * 2 < b":                "a 2 mul b lt",
		"a + b IS NULL":            "a b add null?",
		"a * b IS NOT NULL":        "a b mul null? not",
		"(a > b) > (c > d)":        "d c lt b a lt lt",
		"(a > b) = (c <= d)":       "b a lt d c lt not eq",
		"a > (b > (c > d))":        "d c lt b lt a lt",
		"a > (b <= 1) + 2":         "1 b lt not 2 add a lt",
		"x + (a > b) > y":          "y x b a lt add lt",
		"a AND b > c":              "a c b lt and",
		"a AND b > c OR d <= e":    "a c b lt and e d lt not or",
		"a + 1 > b AND c - 1 <= d": "b a 1 add lt d c 1 sub lt not and",
		"NOT a > b":                "b a lt not",
		"NOT a <= b":               "b a lt not not",
	} {
		wantOps(t, s, want)
	}
}

// P6.3: what binds how strongly, and that of the same strength goes from left to right.
func TestStrength(t *testing.T) {
	for s, want := range map[string]string{
		"a OR b OR c":                     "a b or c or",
		"a AND b AND c":                   "a b and c and",
		"a + b + c":                       "a b add c add",
		"a - b - c":                       "a b sub c sub",
		"a - b + c - d":                   "a b sub c add d sub",
		"a * b * c":                       "a b mul c mul",
		"a OR (b OR c)":                   "a b c or or",
		"a AND (b AND c)":                 "a b c and and",
		"a - (b - c)":                     "a b c sub sub",
		"a * (b * c)":                     "a b c mul mul",
		"a OR b AND c":                    "a b c and or",
		"a AND b OR c":                    "a b and c or",
		"(a OR b) AND c":                  "a b or c and",
		"a AND b OR c AND d":              "a b and c d and or",
		"a OR b AND c OR d":               "a b c and or d or",
		"NOT a":                           "a not",
		"NOT NOT a":                       "a not not",
		"NOT NOT NOT a = b":               "a b eq not not not",
		"NOT a AND b":                     "a not b and",
		"NOT a OR b":                      "a not b or",
		"NOT (a AND b)":                   "a b and not",
		"a AND NOT b":                     "a b not and",
		"a OR NOT b AND NOT c":            "a b not c not and or",
		"a AND NOT NOT b AND c":           "a b not not and c and",
		"NOT a = b":                       "a b eq not",
		"(NOT a) = b":                     "a not b eq",
		"NOT a IS NULL":                   "a null? not",
		"NOT a IS NOT NULL":               "a null? not not",
		"NOT a + b":                       "a b add not",
		"a = b AND c < d":                 "a b eq c d lt and",
		"a = b OR c IS NULL AND NOT d":    "a b eq c null? d not and or",
		"a + b * c":                       "a b c mul add",
		"a * b + c":                       "a b mul c add",
		"a * b - c * d":                   "a b mul c d mul sub",
		"(a + b) * c":                     "a b add c mul",
		"a * (b + c)":                     "a b c add mul",
		"a - - 1":                         "a -1 sub",
		"a - -1 - - 2":                    "a -1 sub -2 sub",
		"- 1 - - 1":                       "-1 -1 sub",
		"- 1 + 2":                         "-1 2 add",
		"- 1 * - 2":                       "-1 -2 mul",
		"a * - 1 + b":                     "a -1 mul b add",
		"a -1":                            "a 1 sub",
		"1 -1":                            "1 1 sub",
		"a = - 1":                         "a -1 eq",
		"(a = b) = c":                     "a b eq c eq",
		"a = (b = c)":                     "a b c eq eq",
		"(a IS NULL) IS NULL":             "a null? null?",
		"(a OR b) IS NOT NULL":            "a b or null? not",
		"(a AND b) + (NOT c)":             "a b and c not add",
		"a + 1 = b * 2 AND NOT c OR 'x'":  "a 1 add b 2 mul eq c not and 'x or",
		"NOT (a OR b) AND (c OR NOT (d))": "a b or not c d not or and",
	} {
		wantOps(t, s, want)
	}
}

// P6.3, P6.4: what can't stand in an expression where it stands; the place is told from the expression's beginning on.
func TestNoExpressions(t *testing.T) {
	for _, c := range []struct {
		s     string
		place int
	}{
		{"a = b = c", 3}, {"a < b < c", 3}, {"a = b IS NULL", 3}, {"a IS NULL = b", 3}, {"a IS NULL IS NULL", 3}, {"a IS NOT NULL <> b", 4}, {"a <> b >= c", 3}, {"a >= b <> c", 3}, {"NOT a <= b > c", 4},
		{"a = NOT b", 2}, {"a + NOT b", 2}, {"a * NOT b", 2}, {"- NOT a", 1}, {"a = b + NOT c", 4}, {"NOT AND", 1}, {"NOT )", 1},
		{"a b", 1}, {"a 1", 1}, {"1 a", 1}, {"1 1", 1}, {"'a' 'b'", 1}, {"a (", 1}, {"a NOT b", 1}, {"a NULL", 1}, {"a TRUE", 1}, {"(a) (b)", 3}, {"a , b", 1}, {"a )", 1}, {"(a))", 3},
		{"()", 1}, {")", 0}, {"(a b)", 2}, {"(a ,", 2}, {"(a = b = c)", 4}, {"(a AND)", 3}, {"(AND", 1}, {"(a SET", 2},
		{"AND a", 0}, {"OR", 0}, {"= a", 0}, {"+ a", 0}, {"+ 1", 0}, {"* 1", 0}, {"<", 0}, {"IS NULL", 0}, {", a", 0}, {"a AND AND b", 2}, {"a OR OR b", 2}, {"a OR AND b", 2}, {"a AND = b", 2},
		{"a = = b", 2}, {"a < = b", 2}, {"a < > b", 2}, {"a > = b", 2}, {"a + + b", 2}, {"a + * b", 2}, {"a * * b", 2}, {"a * + b", 2}, {"a - - b", 3}, {"a - + 1", 2}, {"a + - b", 3}, {"- a", 1}, {"- - 1", 1},
		{"- (1)", 1}, {"- 'x'", 1}, {"- NULL", 1}, {"- TRUE", 1}, {"a IS b", 2}, {"a IS TRUE", 2}, {"a IS 'NULL'", 2}, {"a IS NOT b", 3}, {"a IS NOT NOT NULL", 3}, {"a IS NULL NULL", 3},
		{"a IS NOT TRUE", 3}, {"a IS (NULL)", 2}, {"NOT IS NULL", 1}, {"a and b", 1}, {"not a", 1}, {"a is NULL", 1}, {"a = VALUES", 2}, {"INT", 0}, {"COUNT ( * )", 0}, {"a = *", 2}, {"(*)", 1},
	} {
		for _, ahead := range []string{"DELETE FROM t WHERE ", "SELECT * FROM t WHERE ", "UPDATE t SET z = ", "UPDATE t SET z = 1 WHERE "} {
			l := tokens(t, ahead+c.s)
			wantWrong(t, l, len(tokens(t, ahead))+c.place, api.ErrForm)
		}
	}
}

// P6.4: expressions of MaxOps ops, and of more; the place is told from the expression's beginning on.
func TestManyOps(t *testing.T) {
	many := strings.Repeat
	for _, c := range []struct {
		s     string
		place int // -1: they are not too many
	}{
		{many("NOT ", 39) + "a", -1},
		{many("NOT ", 40) + "a", 40},
		{many("NOT ", 41) + "a", 41},
		{many("NOT ", 50) + "a", 50},
		{many("NOT ", 39) + "( ( a ) )", -1},
		{many("NOT ", 40) + "( ( a ) )", 44},
		{many("NOT ", 39) + "- 1 AND b", 42},            // the literal and 39 Nots are 40
		{"a" + many(" + a", 19), -1},                    // 39
		{"a" + many(" + a", 19) + " IS NULL", -1},       // 40
		{"a" + many(" + a", 19) + " IS NOT NULL", 41},   // the Not, which ends where the IsNull does
		{"a" + many(" + a", 20), 40},                    // the Add
		{"a" + many(" + a", 19) + " * ( ( b ) )", 44},   // 19 a, 18 Adds, a, b, the Mul, the Add, which ends behind the brackets
		{"a" + many(" + a", 19) + " * ( ( b ) ) )", 44}, // ahead of what can't stand there
		{"a" + many(" + a", 19) + " + ( ( b + c", 44},   // ahead of the tokens' end
		{"a" + many(" + a", 19) + " + ( ( 1 + - 1", 45},
		{"a" + many(" + a", 19) + " + ( ( 1 + 'x' )", 44},
		{"a" + many(" + a", 19) + " < b", 40},
		{"a" + many(" + a", 18) + " < b", -1},
		{"a" + many(" + a", 18) + " >= b", -1},     // 37, b, Less, Not: 40
		{"NOT a" + many(" + a", 18) + " >= b", 39}, // and one more Not
		{"a" + many(" + a", 18) + " <= b * 2", 40}, // 37, b, 2, Mul, Less
		{"a" + many(" + a", 18) + " > b * 2", 40},  // the same
		{"a" + many(" + a", 18) + " > ( ( b ) * 2 )", 44},
		{"a" + many(" + a", 17) + " <= b * 2", -1},      // 35, b, 2, Mul, Less, Not
		{"NOT a" + many(" + a", 17) + " <= b * 2", 39},  // and one more Not
		{"a" + many(" + a", 18) + " > b * 2 * 3", 42},   // counted as they come: 37, b, 2, Mul, 3
		{"a" + many(" AND a", 19) + " OR a", 40},        // 39, a, Or
		{"a" + many(" OR a", 19) + " OR NOT a", 41},     // 39, a, Not
		{"a" + many(" OR a", 19) + " OR a IS NULL", 42}, // 39, a, IsNull
		{many("( a + ", 21) + "a" + many(" )", 21), 81}, // 22 a at 1, 4, .., 63, and the 19th Add, which works on what 18 brackets end
		{many("( a + ", 19) + "a" + many(" )", 19), -1}, // 39
		{many("( a + ", 20) + "a" + many(" )", 20), 79}, // 41: the last Add
		{many("a + ( ", 20) + "a" + many(" )", 20), 80}, // here there is one more bracket around what it works on
		{many("( ", 20) + "a" + many(" + a )", 20), 79}, // from left to right: the last one
		{many("( ", 19) + "a" + many(" + a )", 19), -1},
		{"a" + many(" IS NULL AND a", 13), -1}, // 14 a, 13 IsNulls, 13 Ands
		{"a" + many(" IS NULL AND a", 13) + " IS NULL", 54},
	} {
		for _, ahead := range []string{"DELETE FROM t WHERE ", "UPDATE t SET z = "} {
			l := tokens(t, ahead+c.s)
			n := len(tokens(t, ahead))
			if len(l) > api.MaxTokens {
				t.Fatal(len(l))
			}
			if c.place >= 0 {
				wantWrong(t, l, n+c.place, api.ErrFull)
			} else if _, place, e := parse.Parse(l); place != 0 || e != api.OK {
				t.Errorf("Parse(%s): %d, %d", c.s, place, e)
			}
		}
	}
	for _, s := range []string{"UPDATE t SET z = a" + many(" + a", 19) + " WHERE a" + many(" + a", 19)} { // ops are counted of each expression
		if _, place, e := parse.Parse(tokens(t, s)); place != 0 || e != api.OK {
			t.Errorf("Parse(%s): %d, %d", s, place, e)
		}
	}
	wantNotParsed(t, "UPDATE t SET z = a"+many(" + a", 19)+" WHERE a"+many(" + a", 20), 85, api.ErrFull)
	wantNotParsed(t, "DELETE FROM t WHERE a"+many(" + a", 19)+" + ( ( b", 47, api.ErrShort) // there are but 40 yet
	wantNotParsed(t, "DELETE FROM t WHERE a"+many(" + a", 19)+" + ( ( b b", 47, api.ErrForm)
}

// P6.5: what Expression says of ops.
func TestExpression(t *testing.T) {
	for _, s := range []string{"a", "1", "null", "a b eq", "a not", "a null?", "a b c d and or add", "a b sub c mul", "1 2 3 mul mul", "yes no and not not null?", "'x 'y lt"} {
		wantSaid(t, told(s), api.OK)
	}
	for _, s := range []string{"", "a b", "a b c eq", "a b eq c", "and", "a and", "not", "null?", "a b and and", "a not not and", "a b c d", "a eq b", "not a", "a b mul mul c", "1 2 add 3", "sub", "lt", "or", "mul", "add"} {
		wantSaid(t, told(s), api.ErrShort)
	}
	for kind := api.And; kind <= api.IsNull; kind++ {
		needs := 2
		if kind == api.Not || kind == api.IsNull {
			needs = 1
		}
		for n := range 4 {
			want := api.ErrShort
			if n == needs {
				want = api.OK
			}
			wantSaid(t, append(told(strings.Repeat("a ", n)), op(kind)), want)
		}
	}
}

// wantSaid: what Expression says of ops.
func wantSaid(t *testing.T, l []api.Op, want api.Errno) {
	t.Helper()
	if e := parse.Expression(l); e != want {
		t.Errorf("Expression(%v) = %d, want %d", l, e, want)
	}
}

// P6.5: ErrFull ahead of all else.
func TestExpressionFull(t *testing.T) {
	many := func(s string, n int) []api.Op { return told(strings.Repeat(s+" ", n)) }
	wantSaid(t, append(told("a"), many("not", api.MaxOps-1)...), api.OK)
	wantSaid(t, append(told("a"), many("not", api.MaxOps)...), api.ErrFull)
	wantSaid(t, many("a", api.MaxOps), api.ErrShort)
	wantSaid(t, many("a", api.MaxOps+1), api.ErrFull)
	wantSaid(t, make([]api.Op, api.MaxOps), api.ErrKind)
	wantSaid(t, make([]api.Op, api.MaxOps+1), api.ErrFull)
	wantSaid(t, make([]api.Op, 100000), api.ErrFull)
}

// reason: an op, and what is wrong with it, wherever it stands.
type reason struct {
	o    api.Op
	want api.Errno
}

// wrongOps there may be.
func wrongOps() []reason {
	least := num(math.MinInt)
	long := str(strings.Repeat("x", api.MaxText+1))
	var l []reason
	for _, kind := range []int{0, -1, 12, 13, math.MinInt, math.MaxInt} {
		l = append(l, reason{op(kind), api.ErrKind}, reason{api.Op{Kind: kind, Value: least, Name: "a23456789"}, api.ErrKind}, reason{api.Op{Kind: kind, Value: api.Value{Kind: 9}}, api.ErrKind})
	}
	for kind := api.Literal; kind <= api.IsNull; kind++ {
		with := func(v api.Value, name string) api.Op { return api.Op{Kind: kind, Value: v, Name: name} }
		l = append(l,
			reason{with(least, ""), api.ErrRange},
			reason{with(least, "a23456789"), api.ErrRange},
			reason{with(api.Value{Kind: 4}, ""), api.ErrKind},
			reason{with(api.Value{Kind: -1, Int: math.MinInt}, "a"), api.ErrKind},
			reason{with(api.Value{Kind: api.Bool, Int: 2}, ""), api.ErrForm},
			reason{with(api.Value{Kind: api.Bool, Int: math.MinInt}, ""), api.ErrForm},
			reason{with(api.Value{Kind: api.Null, Int: 1}, ""), api.ErrForm},
			reason{with(api.Value{Kind: api.Int, Text: "x"}, ""), api.ErrForm},
			reason{with(api.Value{Kind: api.Text, Int: 1}, ""), api.ErrForm},
			reason{with(long, ""), api.ErrSize},
			reason{with(long, "a23456789"), api.ErrSize}, // what value's Check refuses is named ahead of ErrForm
		)
		if kind != api.Literal {
			for _, v := range []api.Value{no, yes, num(0), num(1), str(""), str("x")} {
				l = append(l, reason{with(v, ""), api.ErrForm}, reason{with(v, "a"), api.ErrForm}, reason{with(v, "a23456789"), api.ErrForm})
			}
		}
		if kind != api.Column {
			l = append(l, reason{with(null, "a"), api.ErrForm}, reason{with(null, "SELECT"), api.ErrForm}, reason{with(null, "a23456789"), api.ErrForm}, reason{with(null, " "), api.ErrForm})
		}
	}
	for _, v := range []api.Value{no, num(7), str("x")} {
		l = append(l, reason{api.Op{Kind: api.Literal, Value: v, Name: "a"}, api.ErrForm})
	}
	for s, want := range map[string]api.Errno{"": api.ErrForm, "1": api.ErrForm, "SELECT": api.ErrForm, "TEXT": api.ErrForm, "a b": api.ErrForm, "a23456789": api.ErrSize, "ROLLBACKS": api.ErrSize} {
		l = append(l, reason{column(s), want})
	}
	return l
}

// P6.5: what is refused of an op, wherever it stands, and that the first one tells it.
func TestWrongOps(t *testing.T) {
	l := wrongOps()
	for i, r := range l {
		wantSaid(t, ops(r.o), r.want)
		wantSaid(t, append(told("a b c"), r.o), r.want)
		wantSaid(t, append(told("a not b eq 'x"), r.o, op(99)), r.want)
		wantSaid(t, ops(r.o, column("a")), r.want)
		wantSaid(t, ops(op(api.Not), r.o), api.ErrShort) // which is told of the first one
		wantSaid(t, append(told("1 and"), r.o), api.ErrShort)
		other := l[(i*7+3)%len(l)]
		wantSaid(t, append(told("a"), r.o, other.o), r.want)
		wantSaid(t, append(told("a"), other.o, r.o), other.want)
	}
	for _, v := range []api.Value{null, no, yes, num(0), num(math.MaxInt), num(-math.MaxInt), num(math.MinInt + 1), str(""), str(strings.Repeat("x", api.MaxText)), str("\x00\xff")} {
		wantSaid(t, ops(literal(v)), api.OK)
	}
	for _, s := range []string{"a", "a2345678", "_", "select"} {
		wantSaid(t, ops(column(s)), api.OK)
	}
}
