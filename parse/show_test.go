package parse_test

import (
	"math"
	"slices"
	"strings"
	"testing"

	"padlock/api"
	"padlock/lex"
	"padlock/parse"
)

// wantShown: a statement is shown as that text, which is parsed as the statement.
func wantShown(t *testing.T, s api.Statement, want string) {
	t.Helper()
	l, e := parse.Show(s)
	if e != api.OK || !slices.Equal(l, tokens(t, want)) {
		t.Errorf("Show(%v) = %s, %d, want %s", s, spelled(l), e, want)
	}
	wantParsedTokens(t, l, s)
	if joined, e := lex.Join(l); e == api.OK && strings.TrimSpace(joined) != want {
		t.Errorf("Join(Show(%v)) = %s, want %s", s, joined, want)
	}
}

// P6.7: each statement.
func TestShow(t *testing.T) {
	for kind, want := range []string{
		api.Create:   "CREATE TABLE t ( a INT , b BOOL , c TEXT )",
		api.Drop:     "DROP TABLE t",
		api.Insert:   "INSERT INTO t VALUES ( 1 , TRUE , 'x' , NULL )",
		api.Select:   "SELECT a , b , a FROM t WHERE ( a = b ) ORDER BY b DESC LIMIT 3",
		api.Update:   "UPDATE t SET a = ( b + 1 ) WHERE ( c IS NULL )",
		api.Delete:   "DELETE FROM t WHERE ( NOT a )",
		api.Begin:    "BEGIN",
		api.Commit:   "COMMIT",
		api.Rollback: "ROLLBACK",
	} {
		if kind > 0 {
			wantShown(t, whole(kind), want)
		}
	}
	for want, s := range map[string]api.Statement{
		"CREATE TABLE a2345678 ( a TEXT )":                                     {Kind: api.Create, Table: "a2345678", Cols: cols(col("a", api.Text)), Limit: -1},
		"INSERT INTO t VALUES ( FALSE )":                                       {Kind: api.Insert, Table: "t", Row: row(no), Limit: -1},
		"INSERT INTO t VALUES ( - 1 , 0 , '' , '''' )":                         {Kind: api.Insert, Table: "t", Row: row(num(-1), num(0), str(""), str("'")), Limit: -1},
		"INSERT INTO t VALUES ( - 9223372036854775807 , 9223372036854775807 )": {Kind: api.Insert, Table: "t", Row: row(num(-math.MaxInt), num(math.MaxInt)), Limit: -1},
		"SELECT * FROM t":                           {Kind: api.Select, Table: "t", Limit: -1},
		"SELECT COUNT ( * ) FROM t":                 {Kind: api.Select, Table: "t", Count: true, Limit: -1},
		"SELECT a FROM t":                           {Kind: api.Select, Table: "t", Names: []string{"a"}, Limit: -1},
		"SELECT * FROM t ORDER BY a":                {Kind: api.Select, Table: "t", Order: "a", Limit: -1},
		"SELECT * FROM t LIMIT 0":                   {Kind: api.Select, Table: "t"},
		"SELECT COUNT ( * ) FROM t WHERE a":         {Kind: api.Select, Table: "t", Count: true, Where: told("a"), Limit: -1},
		"SELECT * FROM t LIMIT 9223372036854775807": {Kind: api.Select, Table: "t", Limit: math.MaxInt},
		"UPDATE t SET a = b":                        {Kind: api.Update, Table: "t", Set: "a", To: told("b"), Limit: -1},
		"UPDATE t SET a = - 3 WHERE - 4":            {Kind: api.Update, Table: "t", Set: "a", To: told("-3"), Where: told("-4"), Limit: -1},
		"DELETE FROM t":                             {Kind: api.Delete, Table: "t", Limit: -1},
	} {
		wantShown(t, s, want)
	}
}

// P6.7: expressions.
func TestShowExpressions(t *testing.T) {
	for s, want := range map[string]string{
		"a": "a", "1": "1", "-1": "- 1", "null": "NULL", "yes": "TRUE", "no": "FALSE", "'x": "'x'", "'": "''", "'a'b": "'a''b'",
		"a b and": "( a AND b )", "a b or": "( a OR b )", "a b eq": "( a = b )", "a b lt": "( a < b )", "a b add": "( a + b )", "a b sub": "( a - b )", "a b mul": "( a * b )",
		"a not": "( NOT a )", "a null?": "( a IS NULL )", "a not not": "( NOT ( NOT a ) )", "a null? not": "( NOT ( a IS NULL ) )", "a not null?": "( ( NOT a ) IS NULL )",
		"a b lt not": "( NOT ( a < b ) )", "a b eq not": "( NOT ( a = b ) )", "-1 -2 sub": "( - 1 - - 2 )", "a -1 mul": "( a * - 1 )", "-1 null?": "( - 1 IS NULL )", "-1 not": "( NOT - 1 )",
		"a b c add mul": "( a * ( b + c ) )", "a b add c mul": "( ( a + b ) * c )", "a b c sub sub": "( a - ( b - c ) )", "a b sub c sub": "( ( a - b ) - c )",
		"a b eq c eq": "( ( a = b ) = c )", "a b c lt lt": "( a < ( b < c ) )", "a b or c and d not or": "( ( ( a OR b ) AND c ) OR ( NOT d ) )",
		"1 2 3 4 add add add null? 'x eq": "( ( ( 1 + ( 2 + ( 3 + 4 ) ) ) IS NULL ) = 'x' )",
	} {
		wantShown(t, api.Statement{Kind: api.Delete, Table: "t", Where: told(s), Limit: -1}, "DELETE FROM t WHERE "+want)
		wantShown(t, api.Statement{Kind: api.Select, Table: "t", Where: told(s), Order: "a", Limit: -1}, "SELECT * FROM t WHERE "+want+" ORDER BY a")
		wantShown(t, api.Statement{Kind: api.Update, Table: "t", Set: "a", To: told(s), Where: told(s), Limit: -1}, "UPDATE t SET a = "+want+" WHERE "+want)
	}
}

// ops that look drawn: an expression of so many.
func (d *die) ops(n int) []api.Op {
	switch {
	case n < 1:
		return nil
	case n == 1 && d.n(2) == 0:
		return ops(column(d.one("a", "b", "a2345678", "_")))
	case n == 1:
		return ops(literal(d.value()))
	case n == 2 || d.n(4) == 0:
		return append(d.ops(n-1), op([]int{api.Not, api.IsNull}[d.n(2)]))
	}
	k := 1 + d.n(n-2)
	two := []int{api.And, api.Or, api.Equal, api.Less, api.Add, api.Sub, api.Mul}
	return append(append(d.ops(k), d.ops(n-1-k)...), op(two[d.n(7)]))
}

// value that looks drawn.
func (d *die) value() api.Value {
	return []api.Value{null, no, yes, num(0), num(d.n(100)), num(-1 - d.n(100)), num(math.MaxInt), num(-math.MaxInt), str(""), str("it's"), str("NULL"), str(strings.Repeat("'", d.n(api.MaxText+1)))}[d.n(12)]
}

// made: a statement that looks drawn, with expressions of at most so many ops.
func (d *die) made(most int) api.Statement {
	s := api.Statement{Kind: 1 + d.n(9), Limit: -1}
	if d.n(2) == 0 {
		s.Kind = api.Select + d.n(3)
	}
	if s.Kind <= api.Delete {
		s.Table = d.one("t", "u", "a2345678")
	}
	switch s.Kind {
	case api.Create:
		for i := range 1 + d.n(api.MaxValues) {
			s.Cols = append(s.Cols, col("abcdef"[i:i+1], 1+d.n(3)))
		}
	case api.Insert:
		for range 1 + d.n(api.MaxValues) {
			s.Row = append(s.Row, d.value())
		}
	case api.Select:
		s.Count = d.n(4) == 0
		for range d.n(api.MaxValues + 1) {
			if !s.Count {
				s.Names = append(s.Names, d.one("a", "b", "c"))
			}
		}
		s.Order = d.one("", "a", "b")
		s.Down = s.Order != "" && d.n(2) == 0
		s.Limit = []int{-1, -1, 0, 7}[d.n(4)]
	case api.Update:
		s.Set, s.To = d.one("a", "b"), d.ops(1+d.n(most))
	}
	if s.Kind >= api.Select && s.Kind <= api.Delete {
		s.Where = d.ops(d.n(most + 1))
	}
	return s
}

// brackets: the last expression of ops as tokens, and the ops ahead of it.
func brackets(l []api.Op) ([]api.Token, []api.Op) {
	o, l := l[len(l)-1], l[:len(l)-1]
	switch o.Kind {
	case api.Literal:
		return literalTokens(o.Value), l
	case api.Column:
		return []api.Token{word(o.Name)}, l
	case api.Not:
		a, l := brackets(l)
		return slices.Concat([]api.Token{mark("("), word("NOT")}, a, []api.Token{mark(")")}), l
	case api.IsNull:
		a, l := brackets(l)
		return slices.Concat([]api.Token{mark("(")}, a, []api.Token{word("IS"), word("NULL"), mark(")")}), l
	}
	b, l := brackets(l)
	a, l := brackets(l)
	sign := map[int]api.Token{api.And: word("AND"), api.Or: word("OR"), api.Equal: mark("="), api.Less: mark("<"), api.Add: mark("+"), api.Sub: mark("-"), api.Mul: mark("*")}[o.Kind]
	return slices.Concat([]api.Token{mark("(")}, a, []api.Token{sign}, b, []api.Token{mark(")")}), l
}

// literalTokens of a value.
func literalTokens(v api.Value) []api.Token {
	switch {
	case v.Kind == api.Text:
		return []api.Token{text(v.Text)}
	case v.Kind == api.Int && v.Int < 0:
		return []api.Token{mark("-"), number(-v.Int)}
	case v.Kind == api.Int:
		return []api.Token{number(v.Int)}
	case v == null:
		return []api.Token{word("NULL")}
	case v == no:
		return []api.Token{word("FALSE")}
	}
	return []api.Token{word("TRUE")}
}

// What comes of it: what is shown is parsed as it was; and each expression in it is as the document has it.
func TestShownIsParsed(t *testing.T) {
	fit, full := 0, 0
	for seed := range 10000 {
		d := die(seed)
		s := d.made(1 + d.n(40))
		l, e := parse.Show(s)
		if is := parse.Check(s); is != e {
			t.Errorf("Check(%v) = %d, %d", s, is, e)
		}
		if e != api.OK {
			if e != api.ErrFull || len(l) > 0 {
				t.Errorf("Show(%v) = %v, %d", s, l, e)
			}
			full++
			continue
		}
		fit++
		wantParsedTokens(t, l, s)
		for _, x := range [][]api.Op{s.To, s.Where} {
			if len(x) > 0 {
				if want, _ := brackets(x); !contains(l, want) {
					t.Errorf("Show(%v) = %s, without %s", s, spelled(l), spelled(want))
				}
			}
		}
	}
	if fit < 5000 || full < 100 {
		t.Error(fit, full)
	}
}

// contains: does a list have all of another one, one behind the other?
func contains(l, part []api.Token) bool {
	for i := range len(l) - len(part) + 1 {
		if slices.Equal(l[i:i+len(part)], part) {
			return true
		}
	}
	return false
}

// What is parsed may be, but where Show would make too many tokens of it; and what is shown of it says the same.
func TestParsedMayBe(t *testing.T) {
	for seed := range 2000 {
		d := die(seed)
		l := tokens(t, "SELECT * FROM t WHERE "+d.sound(0, 1+d.n(30)))
		s, _, e := parse.Parse(l)
		if e != api.OK {
			t.Errorf("%s: %d", spelled(l), e)
			continue
		}
		shown, e := parse.Show(s)
		if again, _, f := parse.Parse(shown); e != api.OK || f != api.OK || !same(again, s) {
			t.Errorf("%s: %s: %v, %d, %d", spelled(l), spelled(shown), again, e, f)
		}
	}
	s, _, e := parse.Parse(tokens(t, "DELETE FROM t WHERE "+strings.Repeat("NOT ", 39)+"a"))
	if e != api.OK {
		t.Error(e)
	}
	wantChecked(t, s, api.ErrFull)
}
