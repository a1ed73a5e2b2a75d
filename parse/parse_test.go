package parse_test

import (
	"fmt"
	"math"
	"strings"
	"testing"

	"padlock/api"
	"padlock/lex"
	"padlock/parse"
)

func word(s string) api.Token { return api.Token{Kind: api.Word, Text: s} }
func number(n int) api.Token  { return api.Token{Kind: api.Number, Int: n} }
func text(s string) api.Token { return api.Token{Kind: api.String, Text: s} }
func mark(s string) api.Token { return api.Token{Kind: api.Mark, Text: s} }

// keptWords, in the order of the document.
var keptWords = strings.Fields("CREATE TABLE DROP INSERT INTO VALUES SELECT COUNT FROM WHERE ORDER BY DESC LIMIT UPDATE SET DELETE" +
	" BEGIN COMMIT ROLLBACK AND OR NOT IS NULL TRUE FALSE INT TEXT BOOL")

// values and ops, in short.
var (
	null = api.Value{}
	no   = api.Value{Kind: api.Bool}
	yes  = api.Value{Kind: api.Bool, Int: 1}
)

func num(n int) api.Value            { return api.Value{Kind: api.Int, Int: n} }
func str(s string) api.Value         { return api.Value{Kind: api.Text, Text: s} }
func literal(v api.Value) api.Op     { return api.Op{Kind: api.Literal, Value: v} }
func column(s string) api.Op         { return api.Op{Kind: api.Column, Name: s} }
func op(kind int) api.Op             { return api.Op{Kind: kind} }
func col(s string, kind int) api.Col { return api.Col{Name: s, Kind: kind} }
func cols(l ...api.Col) []api.Col    { return l }
func ops(l ...api.Op) []api.Op       { return l }
func row(l ...api.Value) []api.Value { return l }

// same: do two say the same, whether their empty lists are nil or not?
func same(a, b any) bool { return fmt.Sprintf("%v", a) == fmt.Sprintf("%v", b) }

// tokens of a text; it has to be cut, however long it is.
func tokens(t *testing.T, s string) []api.Token {
	t.Helper()
	var l []api.Token
	for _, piece := range pieces(s) {
		some, _, e := lex.Cut(piece)
		if e != api.OK {
			t.Fatalf("Cut(%q): %d", piece, e)
		}
		l = append(l, some...)
	}
	return l
}

// pieces of a text with blanks between, short enough to be cut each.
func pieces(s string) []string {
	var l []string
	for len(s) > api.MaxSource/2 {
		i := strings.LastIndexByte(s[:api.MaxSource/2], ' ')
		l, s = append(l, s[:i]), s[i:]
	}
	return append(l, s)
}

// wantParsed: a text is that statement.
func wantParsed(t *testing.T, s string, want api.Statement) {
	t.Helper()
	if is, place, e := parse.Parse(tokens(t, s)); !same(is, want) || place != 0 || e != api.OK {
		t.Errorf("Parse(%s) = %v, %d, %d, want %v", s, is, place, e, want)
	}
}

// wantNotParsed: a text is no statement, for what stands at a place.
func wantNotParsed(t *testing.T, s string, place int, want api.Errno) {
	t.Helper()
	wantWrong(t, tokens(t, s), place, want)
}

// wantWrong: tokens are no statement, for what stands at a place.
func wantWrong(t *testing.T, l []api.Token, place int, want api.Errno) {
	t.Helper()
	if is, at, e := parse.Parse(l); !same(is, api.Statement{}) || at != place || e != want {
		t.Errorf("Parse(%s) = %v, %d, %d, want nothing, %d, %d", spelled(l), is, at, e, place, want)
	}
}

// spelled: tokens as a text, be they as they may.
func spelled(l []api.Token) string {
	var s []string
	for _, x := range l {
		if x.Kind == api.Word || x.Kind == api.Mark {
			s = append(s, x.Text)
		} else {
			s = append(s, fmt.Sprintf("%v", x))
		}
	}
	return strings.Join(s, " ")
}

// P6.1
func TestName(t *testing.T) {
	all := "ABCDEFGHIJKLMNOPQRSTUVWXYZabcdefghijklmnopqrstuvwxyz_0123456789"
	for i := range len(all) {
		want := api.OK
		if i >= 53 { // a digit
			want = api.ErrForm
		}
		wantName(t, all[i:i+1], want)
		wantName(t, "x"+all[i:i+1], api.OK)
	}
	for _, s := range []string{"t", "id", "_", "_1", "a2345678", "________", "select", "Select", "SELECTS", "SELEC", "NULL_", "_NULL", "ROLLBACk", "IN", "A", "STRING", "ASC", "DEFAULT"} {
		wantName(t, s, api.OK)
	}
	for _, s := range []string{
		"", " ", "1", "1a", "a b", "a ", " a", "a-b", "'a'", "a'", "*", "=", "é", "a\x00", "\x00", "a.b", "$", "\xff", "1234567", "a\n",
	} {
		wantName(t, s, api.ErrForm)
	}
	for _, s := range []string{"a23456789", "123456789", "         ", "éééé_", "ROLLBACKS", "SELECT SELECT", strings.Repeat("x", 5000), strings.Repeat("\x00", 9)} {
		wantName(t, s, api.ErrSize) // which is named ahead of ErrForm
	}
	if len(keptWords) != 30 {
		t.Error(len(keptWords))
	}
	for _, s := range keptWords {
		wantName(t, s, api.ErrForm)
		wantName(t, strings.ToLower(s), api.OK)
		wantName(t, s[:len(s)-1]+strings.ToLower(s[len(s)-1:]), api.OK)
		if len(s) < api.MaxName {
			wantName(t, s+"_", api.OK)
			wantName(t, "_"+s, api.OK)
		}
	}
}

// wantName: what is said of a name.
func wantName(t *testing.T, s string, want api.Errno) {
	t.Helper()
	if e := parse.Name(s); e != want {
		t.Errorf("Name(%q) = %d, want %d", s, e, want)
	}
}

// P6.2: each statement, whole.
func TestStatements(t *testing.T) {
	where := ops(column("a"), literal(num(1)), op(api.Equal))
	for s, want := range map[string]api.Statement{
		"CREATE TABLE t (a INT)": {Kind: api.Create, Table: "t", Cols: cols(col("a", api.Int)), Limit: -1},
		"CREATE TABLE u (a BOOL, b INT, c TEXT, d TEXT, e INT, f BOOL)": {Kind: api.Create, Table: "u", Limit: -1,
			Cols: cols(col("a", api.Bool), col("b", api.Int), col("c", api.Text), col("d", api.Text), col("e", api.Int), col("f", api.Bool))},
		"CREATE TABLE t (t TEXT, T TEXT)": {Kind: api.Create, Table: "t", Cols: cols(col("t", api.Text), col("T", api.Text)), Limit: -1},
		"DROP TABLE a2345678":             {Kind: api.Drop, Table: "a2345678", Limit: -1},
		"INSERT INTO t VALUES (1)":        {Kind: api.Insert, Table: "t", Row: row(num(1)), Limit: -1},
		"INSERT INTO t VALUES (NULL, TRUE, FALSE, 12, -34, 'it''s')": {Kind: api.Insert, Table: "t", Limit: -1,
			Row: row(null, yes, no, num(12), num(-34), str("it's"))},
		"INSERT INTO t VALUES ('', 0, - 0, 9223372036854775807, - 9223372036854775807, 'abcdefghijklmnopqrst')": {Kind: api.Insert, Table: "t", Limit: -1,
			Row: row(str(""), num(0), num(0), num(math.MaxInt), num(-math.MaxInt), str("abcdefghijklmnopqrst"))},
		"SELECT * FROM t":                                       {Kind: api.Select, Table: "t", Limit: -1},
		"SELECT COUNT(*) FROM t":                                {Kind: api.Select, Table: "t", Count: true, Limit: -1},
		"SELECT a FROM t":                                       {Kind: api.Select, Table: "t", Names: []string{"a"}, Limit: -1},
		"SELECT a, b, a, a, c, a FROM t":                        {Kind: api.Select, Table: "t", Names: []string{"a", "b", "a", "a", "c", "a"}, Limit: -1},
		"SELECT * FROM t WHERE a = 1":                           {Kind: api.Select, Table: "t", Where: where, Limit: -1},
		"SELECT * FROM t ORDER BY b":                            {Kind: api.Select, Table: "t", Order: "b", Limit: -1},
		"SELECT * FROM t ORDER BY b DESC":                       {Kind: api.Select, Table: "t", Order: "b", Down: true, Limit: -1},
		"SELECT * FROM t LIMIT 0":                               {Kind: api.Select, Table: "t", Limit: 0},
		"SELECT * FROM t LIMIT 9223372036854775807":             {Kind: api.Select, Table: "t", Limit: math.MaxInt},
		"SELECT a FROM t WHERE a = 1 ORDER BY b DESC LIMIT 7":   {Kind: api.Select, Table: "t", Names: []string{"a"}, Where: where, Order: "b", Down: true, Limit: 7},
		"SELECT COUNT(*) FROM t WHERE a = 1 ORDER BY b LIMIT 7": {Kind: api.Select, Table: "t", Count: true, Where: where, Order: "b", Limit: 7},
		"SELECT * FROM t WHERE a = 1 LIMIT 7":                   {Kind: api.Select, Table: "t", Where: where, Limit: 7},
		"SELECT * FROM t ORDER BY b LIMIT 7":                    {Kind: api.Select, Table: "t", Order: "b", Limit: 7},
		"UPDATE t SET a = 2":                                    {Kind: api.Update, Table: "t", Set: "a", To: ops(literal(num(2))), Limit: -1},
		"UPDATE t SET b = c + 1 WHERE a = 1":                    {Kind: api.Update, Table: "t", Set: "b", To: ops(column("c"), literal(num(1)), op(api.Add)), Where: where, Limit: -1},
		"UPDATE t SET b = c = d":                                {Kind: api.Update, Table: "t", Set: "b", To: ops(column("c"), column("d"), op(api.Equal)), Limit: -1},
		"DELETE FROM t":                                         {Kind: api.Delete, Table: "t", Limit: -1},
		"DELETE FROM t WHERE a = 1":                             {Kind: api.Delete, Table: "t", Where: where, Limit: -1},
		"BEGIN":                                                 {Kind: api.Begin, Limit: -1},
		"COMMIT":                                                {Kind: api.Commit, Limit: -1},
		"ROLLBACK":                                              {Kind: api.Rollback, Limit: -1},
	} {
		wantParsed(t, s, want)
	}
}

// P6.4: a statement whose tokens end too early is ErrShort, behind the last one. Ahead of what stands behind a | it may end.
func TestShort(t *testing.T) {
	for _, s := range []string{
		"CREATE TABLE t ( a INT , b TEXT )", "DROP TABLE t", "INSERT INTO t VALUES ( NULL , TRUE , 1 , - 2 , 'a' )",
		"SELECT COUNT ( * ) FROM t |WHERE NOT a |IS NOT NULL |ORDER BY b |DESC |LIMIT 3", "SELECT a , b FROM t |LIMIT 3", "SELECT * FROM t |ORDER BY n |LIMIT 1",
		"UPDATE t SET a = b |+ 1 |* ( c < 2 ) |= 'x' |WHERE d |OR e |>= - 1 |AND f", "DELETE FROM t |WHERE a |IS NULL", "BEGIN", "COMMIT", "ROLLBACK",
	} {
		var l []api.Token
		for _, piece := range strings.Fields(s + " |") {
			rest, may := strings.CutPrefix(piece, "|")
			if !may {
				wantWrong(t, l, len(l), api.ErrShort)
			} else if _, place, e := parse.Parse(l); place != 0 || e != api.OK {
				t.Errorf("Parse(%v): %d, %d", l, place, e)
			}
			l = append(l, tokens(t, rest)...)
		}
	}
}

// P6.4: tokens that can't stand where they stand.
func TestForm(t *testing.T) {
	for _, c := range []struct {
		s     string
		place int
	}{
		{"t", 0}, {"1", 0}, {"'BEGIN'", 0}, {"(", 0}, {"begin", 0}, {"TABLE", 0}, {"VALUES", 0}, {"FROM t", 0}, {"abcdefghijk", 0}, {"Select * FROM t", 0},
		{"BEGIN BEGIN", 1}, {"BEGIN t", 1}, {"COMMIT 1", 1}, {"ROLLBACK )", 1}, {"BEGIN abcdefghijk", 1},
		{"CREATE t", 1}, {"CREATE 'TABLE' t", 1}, {"CREATE TABLE (", 2}, {"CREATE TABLE TABLE", 2}, {"CREATE TABLE 1", 2}, {"CREATE TABLE 't'", 2}, {"CREATE TABLE t a", 3},
		{"CREATE TABLE t ()", 4}, {"CREATE TABLE t (1", 4}, {"CREATE TABLE t (INT", 4}, {"CREATE TABLE t (a a", 5}, {"CREATE TABLE t (a int", 5}, {"CREATE TABLE t (a NULL", 5},
		{"CREATE TABLE t (a INT b", 6}, {"CREATE TABLE t (a INT a", 6}, {"CREATE TABLE t (a INT,)", 7}, {"CREATE TABLE t (a INT, )", 7}, {"CREATE TABLE t (a INT) t", 7},
		{"CREATE TABLE t (a INT, b)", 8}, {"CREATE TABLE t (a, b INT)", 5}, {"CREATE TABLE t (a INT TEXT)", 6}, {"CREATE TABLE t (a abcdefghijk", 5},
		{"DROP t", 1}, {"DROP TABLE t t", 3}, {"DROP TABLE *", 2}, {"DROP TABLE DROP", 2}, {"DROP FROM t", 1},
		{"INSERT t", 1}, {"INSERT INTO VALUES", 2}, {"INSERT INTO t (1)", 3}, {"INSERT INTO t VALUES 1", 4}, {"INSERT INTO t VALUES ()", 5}, {"INSERT INTO t VALUES (a)", 5},
		{"INSERT INTO t VALUES (1,)", 7}, {"INSERT INTO t VALUES (1 2)", 6}, {"INSERT INTO t VALUES (- a)", 6}, {"INSERT INTO t VALUES (- - 1)", 6}, {"INSERT INTO t VALUES (- NULL)", 6},
		{"INSERT INTO t VALUES (- 'a')", 6}, {"INSERT INTO t VALUES (+ 1)", 5}, {"INSERT INTO t VALUES (1 + 1)", 6}, {"INSERT INTO t VALUES ((1))", 5}, {"INSERT INTO t VALUES (1) (2)", 7},
		{"INSERT INTO t VALUES (NOT TRUE)", 5}, {"INSERT INTO t VALUES (abcdefghijk)", 5}, {"INSERT INTO t VALUES (true)", 5}, {"INSERT INTO t VALUES (- abcdefghijk)", 6},
		{"SELECT FROM t", 1}, {"SELECT 1 FROM t", 1}, {"SELECT (a) FROM t", 1}, {"SELECT a b FROM t", 2}, {"SELECT a, FROM t", 3}, {"SELECT a, * FROM t", 3}, {"SELECT *, a FROM t", 2},
		{"SELECT COUNT FROM t", 2}, {"SELECT COUNT * FROM t", 2}, {"SELECT COUNT (a) FROM t", 3}, {"SELECT COUNT ( ) FROM t", 3}, {"SELECT COUNT ( * FROM t", 4}, {"SELECT COUNT(*), a FROM t", 5},
		{"SELECT a, COUNT(*) FROM t", 3}, {"SELECT count(*) FROM t", 2}, {"SELECT * t", 2}, {"SELECT * FROM WHERE", 3}, {"SELECT * FROM t t", 4}, {"SELECT * FROM t, u", 4}, {"SELECT * FROM 't'", 3},
		{"SELECT * FROM t WHERE ORDER BY a", 5}, {"SELECT * FROM t ORDER a", 5}, {"SELECT * FROM t BY a", 4}, {"SELECT * FROM t ORDER BY 1", 6}, {"SELECT * FROM t ORDER BY DESC", 6},
		{"SELECT * FROM t ORDER BY a, b", 7}, {"SELECT * FROM t ORDER BY a ASC", 7}, {"SELECT * FROM t ORDER BY a DESC DESC", 8}, {"SELECT * FROM t DESC", 4}, {"SELECT * FROM t LIMIT a", 5},
		{"SELECT * FROM t LIMIT - 1", 5}, {"SELECT * FROM t LIMIT NULL", 5}, {"SELECT * FROM t LIMIT '1'", 5}, {"SELECT * FROM t LIMIT 1 LIMIT 1", 6}, {"SELECT * FROM t LIMIT 1 ORDER BY a", 6},
		{"SELECT * FROM t ORDER BY a WHERE b", 7}, {"SELECT * FROM t LIMIT 1 WHERE b", 6}, {"SELECT * FROM t WHERE a WHERE b", 6}, {"SELECT * FROM t LIMIT 1 + 1", 6},
		{"UPDATE SET a = 1", 1}, {"UPDATE t a = 1", 2}, {"UPDATE t SET = 1", 3}, {"UPDATE t SET a 1", 4}, {"UPDATE t SET a < 1", 4}, {"UPDATE t SET 1 = 1", 3},
		{"UPDATE t SET a = 1, b = 2", 6}, {"UPDATE t SET a = b = c = d", 8}, {"UPDATE t SET a = WHERE b", 5}, {"UPDATE t SET a = 1 ORDER BY a", 6}, {"UPDATE t SET a = 1 WHERE b LIMIT 1", 8},
		{"UPDATE t WHERE a SET b = 1", 2}, {"UPDATE TABLE t", 1}, {"UPDATE t SET (a = 1)", 3},
		{"DELETE t", 1}, {"DELETE FROM FROM", 2}, {"DELETE FROM t a", 3}, {"DELETE FROM t t", 3}, {"DELETE * FROM t", 1}, {"DELETE FROM t ORDER BY a", 3},
		{"DELETE FROM t WHERE a LIMIT 1", 5}, {"DELETE FROM t WHERE a ORDER BY a", 5}, {"DELETE FROM t WHERE a b", 5}, {"DELETE FROM t WHERE WHERE", 4}, {"DELETE FROM t WHERE a, b", 5},
	} {
		wantNotParsed(t, c.s, c.place, api.ErrForm)
	}
}

// P6.4: of a Word where a name must be, what Name refuses is told; elsewhere ErrForm.
func TestWrongNames(t *testing.T) {
	long := "a23456789"
	for _, c := range []struct {
		s     string
		place int
	}{
		{"CREATE TABLE ?", 2}, {"CREATE TABLE t ( ?", 4}, {"CREATE TABLE t ( a INT , ?", 7}, {"DROP TABLE ?", 2}, {"INSERT INTO ?", 2},
		{"SELECT ?", 1}, {"SELECT a , ?", 3}, {"SELECT * FROM ?", 3}, {"SELECT * FROM t ORDER BY ?", 6}, {"SELECT * FROM t WHERE ?", 5}, {"SELECT * FROM t WHERE a + ?", 7},
		{"UPDATE ?", 1}, {"UPDATE t SET ?", 3}, {"UPDATE t SET a = ?", 5}, {"UPDATE t SET a = b WHERE ?", 7}, {"DELETE FROM ?", 2}, {"DELETE FROM t WHERE ( ?", 5}, {"DELETE FROM t WHERE NOT ?", 5},
		{"DELETE FROM t WHERE a AND ?", 6}, {"DELETE FROM t WHERE a = ?", 6}, {"DELETE FROM t WHERE a * ?", 6}, {"DELETE FROM t WHERE a IS NULL OR ?", 8},
	} {
		for _, rest := range []string{"", " ) , 1 'x'", " " + long} {
			wantNotParsed(t, strings.ReplaceAll(c.s, "?", long)+rest, c.place, api.ErrSize)
			wantNotParsed(t, strings.ReplaceAll(c.s, "?", "abcdefghijklmnopqrstuvwxyz")+rest, c.place, api.ErrSize)
			for _, kept := range []string{"SET", "ROLLBACK", "ORDER", "BOOL"} {
				wantNotParsed(t, strings.ReplaceAll(c.s, "?", kept)+rest, c.place, api.ErrForm)
			}
			for _, other := range []string{"=", ")", ","} {
				wantNotParsed(t, strings.ReplaceAll(c.s, "?", other)+rest, c.place, api.ErrForm)
			}
		}
	}
	for _, c := range []struct {
		s     string
		place int
	}{
		{"?", 0}, {"BEGIN ?", 1}, {"CREATE ?", 1}, {"CREATE TABLE t ?", 3}, {"CREATE TABLE t ( a ?", 5}, {"CREATE TABLE t ( a INT ?", 6}, {"DROP TABLE t ?", 3}, {"INSERT INTO t ?", 3},
		{"INSERT INTO t VALUES ?", 4}, {"INSERT INTO t VALUES ( ?", 5}, {"INSERT INTO t VALUES ( 1 , ?", 7}, {"INSERT INTO t VALUES ( - ?", 6}, {"SELECT * ?", 2}, {"SELECT a ?", 2}, {"SELECT COUNT ?", 2},
		{"SELECT COUNT ( ?", 3}, {"SELECT * FROM t ?", 4}, {"SELECT * FROM t ORDER ?", 5}, {"SELECT * FROM t ORDER BY a ?", 7}, {"SELECT * FROM t LIMIT ?", 5}, {"DELETE FROM t WHERE a ?", 5},
		{"DELETE FROM t WHERE - ?", 5}, {"DELETE FROM t WHERE a IS ?", 6}, {"DELETE FROM t WHERE a IS NOT ?", 7}, {"DELETE FROM t WHERE a = b ?", 7}, {"UPDATE t SET a ?", 4},
	} {
		wantNotParsed(t, strings.ReplaceAll(c.s, "?", long), c.place, api.ErrForm)
	}
}

// P6.4: columns' names that are there already.
func TestTwice(t *testing.T) {
	wantNotParsed(t, "CREATE TABLE t (a INT, a INT)", 7, api.ErrTwice)
	wantNotParsed(t, "CREATE TABLE t (a INT, a", 7, api.ErrTwice)
	wantNotParsed(t, "CREATE TABLE t (a INT, a a", 7, api.ErrTwice)
	wantNotParsed(t, "CREATE TABLE t (a INT, b INT, c TEXT, b BOOL, c", 13, api.ErrTwice)
	wantNotParsed(t, "CREATE TABLE t (a INT, b INT, c TEXT, d TEXT, e TEXT, a INT)", 19, api.ErrTwice)
	wantNotParsed(t, "CREATE TABLE t (a INT a", 6, api.ErrForm) // no name can stand there
	wantNotParsed(t, "CREATE TABLE t (a a", 5, api.ErrForm)
	wantParsed(t, "CREATE TABLE t (a INT, A INT)", api.Statement{Kind: api.Create, Table: "t", Cols: cols(col("a", api.Int), col("A", api.Int)), Limit: -1})
	wantParsed(t, "CREATE TABLE a (a INT)", api.Statement{Kind: api.Create, Table: "a", Cols: cols(col("a", api.Int)), Limit: -1})
}

// P6.4: Strings that are too long.
func TestLongStrings(t *testing.T) {
	for _, n := range []int{0, 1, api.MaxText - 1, api.MaxText} {
		s := strings.Repeat("'", n)
		wantParsedTokens(t, append(tokens(t, "DELETE FROM t WHERE"), text(s)), api.Statement{Kind: api.Delete, Table: "t", Where: ops(literal(str(s))), Limit: -1})
	}
	for _, s := range []string{strings.Repeat("x", api.MaxText+1), strings.Repeat("é", 11), strings.Repeat("y", 100000)} {
		for _, c := range []struct {
			s     string
			place int
			want  api.Errno
		}{
			{"INSERT INTO t VALUES (", 5, api.ErrSize}, {"INSERT INTO t VALUES (1, 'a',", 9, api.ErrSize}, {"DELETE FROM t WHERE", 4, api.ErrSize}, {"DELETE FROM t WHERE a <=", 6, api.ErrSize},
			{"UPDATE t SET a =", 5, api.ErrSize}, {"UPDATE t SET a = (NOT", 7, api.ErrSize}, {"SELECT * FROM t WHERE a +", 7, api.ErrSize},
			{"DELETE FROM t WHERE a", 5, api.ErrForm}, {"SELECT", 1, api.ErrForm}, {"", 0, api.ErrForm}, {"DELETE FROM", 2, api.ErrForm}, // where no String can stand
			{"INSERT INTO t VALUES (-", 6, api.ErrForm}, {"INSERT INTO t VALUES (1, 2, 3, 4, 5, 6", 16, api.ErrForm},
		} {
			wantWrong(t, append(tokens(t, c.s), text(s), text(s), number(1), mark(")")), c.place, c.want)
		}
	}
}

// wantParsedTokens: tokens are that statement.
func wantParsedTokens(t *testing.T, l []api.Token, want api.Statement) {
	t.Helper()
	if is, place, e := parse.Parse(l); !same(is, want) || place != 0 || e != api.OK {
		t.Errorf("Parse(%v) = %v, %d, %d, want %v", l, is, place, e, want)
	}
}

// P6.4: lists that would go on too long, at the comma by which they would.
func TestLongLists(t *testing.T) {
	for _, rest := range []string{"", " 7", " g INT)", " a", " 'abcdefghijklmnopqrstuvwxyz'", " a23456789", " , ,"} {
		wantNotParsed(t, "CREATE TABLE t (a INT, b INT, c INT, d INT, e INT, f INT,"+rest, 21, api.ErrFull)
		wantNotParsed(t, "INSERT INTO t VALUES (1, 2, 3, 4, 5, 6,"+rest, 16, api.ErrFull)
		wantNotParsed(t, "INSERT INTO t VALUES (- 1, NULL, - 3, TRUE, 'x', - 6,"+rest, 19, api.ErrFull)
		wantNotParsed(t, "SELECT a, b, c, a, b, c,"+rest, 12, api.ErrFull)
	}
	wantNotParsed(t, "SELECT a, b, c, a, b, c FROM t, u", 14, api.ErrForm) // no list goes on there
}

// P6.4: more than MaxTokens, ahead of all else.
func TestManyTokens(t *testing.T) {
	var l []api.Token
	for range api.MaxTokens {
		l = append(l, api.Token{Kind: 9})
	}
	wantWrong(t, l, 0, api.ErrKind)
	wantWrong(t, append(l, word("a")), 0, api.ErrFull)
	open, shut := strings.Repeat("( ", 46), strings.Repeat(") ", 46)
	wantParsed(t, "DELETE FROM t WHERE "+open+"a IS NOT NULL "+shut, api.Statement{Kind: api.Delete, Table: "t", Where: ops(column("a"), op(api.IsNull), op(api.Not)), Limit: -1})
	wantNotParsed(t, "DELETE FROM t WHERE "+open+"a IS NULL "+shut+")", 99, api.ErrForm)
	wantNotParsed(t, "DELETE FROM t WHERE "+open+"a IS NOT NULL "+shut+")", 0, api.ErrFull)
	l = append(tokens(t, "BEGIN"), make([]api.Token, 5000)...)
	wantWrong(t, l, 0, api.ErrFull)
	wantNotParsed(t, "DELETE FROM t WHERE "+strings.Repeat("( ", 96), 100, api.ErrShort)
	wantNotParsed(t, "DELETE FROM t WHERE "+strings.Repeat("( ", 97), 0, api.ErrFull)
}

// P6.4: tokens that lex's Check refuses, with its error, ahead of what can't stand where it stands.
func TestWrongTokens(t *testing.T) {
	for _, x := range []api.Token{
		{}, {Kind: 5, Text: "a"}, {Kind: -1}, {Kind: api.Number, Int: -1}, {Kind: api.Number, Int: math.MinInt, Text: "1"}, {Kind: api.Number, Int: 1, Text: "1"},
		{Kind: api.Word}, {Kind: api.Word, Text: "1a"}, {Kind: api.Word, Text: "a", Int: 1}, {Kind: api.Mark, Text: "=="}, {Kind: api.Mark}, {Kind: api.String, Text: "a", Int: 1}, {Kind: api.Word, Text: "a "},
	} {
		want := lex.Check(x)
		if want == api.OK {
			t.Fatal(x)
		}
		for _, s := range []string{"", "BEGIN", "( ( (", "SELECT * FROM t WHERE a = ", "DELETE FROM t WHERE 'abcdefghijklmnopqrstuvwxyz'", "DROP TABLE a23456789", "CREATE TABLE t (a INT, a INT"} {
			l := tokens(t, s)
			wantWrong(t, append(append(l, x), word("a"), api.Token{Kind: 77}, api.Token{Kind: api.Number, Int: -5}), len(l), want)
		}
	}
}

// P6.4: a String is no word and no mark, whatever its text.
func TestStringsAreNoWords(t *testing.T) {
	for _, s := range []string{
		"CREATE TABLE t ( a INT , b TEXT )", "DROP TABLE t", "INSERT INTO t VALUES ( 1 , - 2 )", "SELECT COUNT ( * ) FROM t WHERE NOT a IS NOT NULL ORDER BY b DESC LIMIT 3",
		"SELECT * FROM t WHERE ( a + b ) * c <= d OR a AND a - 1 > 2", "UPDATE t SET a = b", "DELETE FROM t", "BEGIN", "COMMIT", "ROLLBACK",
	} {
		l := tokens(t, s)
		for i, was := range l {
			if was.Kind == api.Mark || was.Kind == api.Word && parse.Name(was.Text) != api.OK {
				l[i] = text(was.Text)
				if _, place, e := parse.Parse(l); place != i && place != i+1 || e != api.ErrForm { // a String may stand where there is a NOT or a (
					t.Errorf("Parse(%v): %d, %d", l, place, e)
				}
				l[i] = was
			}
		}
	}
}
