package need_test

import (
	"math"
	"slices"
	"strconv"
	"strings"
	"testing"

	"padlock/api"
	"padlock/base"
	"padlock/codec"
	"padlock/lex"
	"padlock/need"
	"padlock/parse"
)

func num(n int) api.Value    { return api.Value{Kind: api.Int, Int: n} }
func str(s string) api.Value { return api.Value{Kind: api.Text, Text: s} }

// read a statement that can be read.
func read(s string) api.Statement {
	l, _, e := lex.Cut(s)
	if e != api.OK {
		panic(s)
	}
	x, _, e := parse.Parse(l)
	if e != api.OK {
		panic(s)
	}
	return x
}

// after some statements, none of which is refused.
func after(t *testing.T, b api.Base, l ...string) api.Base {
	t.Helper()
	for _, s := range l {
		x, _, e := base.Run(b, read(s))
		if e != api.OK {
			t.Fatalf("%s: %v, %d", s, x, e)
		}
		b = x
	}
	return b
}

// usual base of these tests: t has the keys 10, 20 .. 60 in more than one leaf, and had more; v has no rows.
func usual(t *testing.T) api.Base {
	t.Helper()
	return after(t, api.Base{},
		"CREATE TABLE t (id INT, n INT, s TEXT, b BOOL)",
		"INSERT INTO t VALUES (30, 1, 'b', TRUE)",
		"INSERT INTO t VALUES (65, 1, 'b', TRUE)",
		"INSERT INTO t VALUES (10, 2, 'a', NULL)",
		"INSERT INTO t VALUES (50, NULL, 'b', FALSE)",
		"INSERT INTO t VALUES (20, 1, NULL, TRUE)",
		"INSERT INTO t VALUES (25, 1, NULL, TRUE)",
		"INSERT INTO t VALUES (60, 1, NULL, TRUE)",
		"INSERT INTO t VALUES (40, 2, 'ab', FALSE)",
		"DELETE FROM t WHERE id = 25 OR id = 65",
		"CREATE TABLE u (s TEXT, id INT)",
		"INSERT INTO u VALUES ('m', 30)",
		"INSERT INTO u VALUES ('', NULL)",
		"CREATE TABLE v (b BOOL)",
	)
}

// told: a value as a statement tells it.
func told(v api.Value) string {
	switch v.Kind {
	case api.Bool:
		return []string{"FALSE", "TRUE"}[v.Int]
	case api.Int:
		return strconv.Itoa(v.Int)
	case api.Text:
		return "'" + v.Text + "'"
	}
	return "NULL"
}

// line of needs, with the values of keys; the list of tables is told as -.
func line(l []api.Need) string {
	var out []string
	for _, n := range l {
		thing := n.Thing
		if name, key, ok := strings.Cut(thing, ":"); ok {
			v, e := codec.Decode([]byte(key))
			if e != api.OK || len(v) != 1 {
				panic(thing)
			}
			thing = name + ":" + told(v[0])
		}
		if thing == "" {
			thing = "-"
		}
		out = append(out, []string{api.IS: "IS", api.IX: "IX", api.S: "S", api.SIX: "SIX", api.X: "X"}[n.Mode]+" "+thing)
	}
	return strings.Join(out, ", ")
}

// want the needs of a statement, behind that of the list of tables, which is IS.
func want(t *testing.T, b api.Base, s, wanted string) {
	t.Helper()
	l, e := need.Needs(b, read(s))
	whole := "IS -"
	if wanted != "" {
		whole += ", " + wanted
	}
	if line(l) != whole || e != api.OK {
		t.Errorf("%s: %s, %d\nwant %s", s, line(l), e, whole)
	}
}

// wantRefused: with that error, and no needs.
func wantRefused(t *testing.T, b api.Base, s api.Statement, wanted api.Errno) {
	t.Helper()
	if l, e := need.Needs(b, s); len(l) > 0 || e != wanted {
		t.Errorf("%v: %v, %d, want %d", s, l, e, wanted)
	}
}

// P9.1: things to the byte, of keys of each kind.
func TestThings(t *testing.T) {
	b := after(t, usual(t), "INSERT INTO u VALUES ('z:k', 1)", "CREATE TABLE ninebyte (b BOOL, t INT)", "INSERT INTO ninebyte VALUES (TRUE, 1)")
	const ten, twelve = "\x02\x80\x00\x00\x00\x00\x00\x00\x0a", "\x02\x80\x00\x00\x00\x00\x00\x00\x0c"
	zeros := api.Statement{Kind: api.Insert, Table: "u", Row: []api.Value{str("a\x00" + strings.Repeat("\x00", api.MaxText-2)), {}}, Limit: -1}
	for i, c := range []struct {
		s    api.Statement
		want []string
	}{
		{read("CREATE TABLE x (y INT)"), []string{""}},
		{read("SELECT * FROM t"), []string{"", "tt"}},
		{read("SELECT * FROM ninebyte"), []string{"", "tninebyte"}},
		{read("SELECT * FROM t WHERE id = 10"), []string{"", "tt", "kt:" + ten, "kt:\x02\x80\x00\x00\x00\x00\x00\x00\x14"}},
		{read("INSERT INTO t VALUES (- 1, NULL, NULL, NULL)"), []string{"", "tt", "kt:\x02\x7f\xff\xff\xff\xff\xff\xff\xff", "kt:" + ten}},
		{read("SELECT * FROM t WHERE id = 12"), []string{"", "tt", "kt:\x02\x80\x00\x00\x00\x00\x00\x00\x14"}},
		{read("INSERT INTO t VALUES (12, NULL, NULL, NULL)"), []string{"", "tt", "kt:" + twelve, "kt:\x02\x80\x00\x00\x00\x00\x00\x00\x14"}},
		{read("INSERT INTO t VALUES (99, NULL, NULL, NULL)"), []string{"", "tt", "kt:\x02\x80\x00\x00\x00\x00\x00\x00\x63", "et"}},
		{read("INSERT INTO u VALUES ('n', NULL)"), []string{"", "tu", "ku:\x03n\x00\x00", "ku:\x03z:k\x00\x00"}},
		{read("INSERT INTO u VALUES (':', NULL)"), []string{"", "tu", "ku:\x03:\x00\x00", "ku:\x03m\x00\x00"}},
		{zeros, []string{"", "tu", "ku:\x03a" + strings.Repeat("\x00\xff", api.MaxText-1) + "\x00\x00", "ku:\x03m\x00\x00"}},
		{read("SELECT * FROM u WHERE s <= ''"), []string{"", "tu", "ku:\x03\x00\x00", "ku:\x03m\x00\x00"}},
		{read("INSERT INTO v VALUES (FALSE)"), []string{"", "tv", "kv:\x01\x00", "ev"}},
		{read("INSERT INTO ninebyte VALUES (FALSE, NULL)"), []string{"", "tninebyte", "kninebyte:\x01\x00", "kninebyte:\x01\x01"}},
		{read("DELETE FROM ninebyte WHERE b"), []string{"", "tninebyte"}},
		{read("DELETE FROM ninebyte WHERE b = TRUE"), []string{"", "tninebyte", "kninebyte:\x01\x01", "eninebyte"}},
	} {
		l, e := need.Needs(b, c.s)
		var things []string
		for _, n := range l {
			things = append(things, n.Thing)
		}
		if !slices.Equal(things, c.want) || e != api.OK {
			t.Errorf("%d: %q, %d\nwant %q", i, things, e, c.want)
		}
	}
}

// P9.1: the next thing is above a key, whether that is there or not, and in whichever leaf it is.
func TestNext(t *testing.T) {
	b := usual(t)
	next := func(id int) string {
		if id >= 60 {
			return "X et"
		}
		return "X kt:" + strconv.Itoa(max(id/10*10+10, 10))
	}
	for id := 1; id < 80; id++ {
		s := strconv.Itoa(id)
		want(t, b, "INSERT INTO t VALUES ("+s+", NULL, NULL, NULL)", "IX tt, X kt:"+s+", "+next(id))
	}
	want(t, b, "INSERT INTO t VALUES (- 9223372036854775807, 1, 'a', TRUE)", "IX tt, X kt:-9223372036854775807, X kt:10")
	want(t, b, "INSERT INTO t VALUES (9223372036854775807, 1, 'a', TRUE)", "IX tt, X kt:9223372036854775807, X et")
	b = after(t, b, "DELETE FROM t WHERE id > 10 AND id < 60") // leaves between have no keys any more
	want(t, b, "INSERT INTO t VALUES (10, NULL, NULL, NULL)", "IX tt, X kt:10, X kt:60")
	want(t, b, "INSERT INTO t VALUES (11, NULL, NULL, NULL)", "IX tt, X kt:11, X kt:60")
	want(t, b, "SELECT * FROM t WHERE id > 11 AND id < 50", "IS tt, S kt:60")
	b = after(t, b, "DELETE FROM t")
	want(t, b, "INSERT INTO t VALUES (10, NULL, NULL, NULL)", "IX tt, X kt:10, X et")
	want(t, b, "SELECT * FROM t WHERE id > 11", "IS tt, S et")
	want(t, b, "SELECT * FROM t WHERE id < 11", "IS tt, S et")
}

// P9.2: of what fails over a table nothing but the list of tables is needed.
func TestFails(t *testing.T) {
	b := usual(t)
	for _, s := range []string{
		"INSERT INTO t VALUES (1)",
		"INSERT INTO t VALUES (1, 1, 'a')",
		"INSERT INTO t VALUES (1, 1, 'a', TRUE, 1)",
		"INSERT INTO t VALUES (NULL, 1, 'a', TRUE)",
		"INSERT INTO t VALUES ('1', 1, 'a', TRUE)",
		"INSERT INTO t VALUES (1, 1, 1, TRUE)",
		"INSERT INTO t VALUES (1, 1, 'a', 1)",
		"INSERT INTO u VALUES (1, 1)",
		"SELECT zz FROM t",
		"SELECT id, n, zz FROM t",
		"SELECT zz, id FROM t WHERE id = 10",
		"SELECT ID FROM t",
		"SELECT t FROM t",
		"SELECT n FROM u",
		"SELECT id FROM v",
		"SELECT * FROM t ORDER BY zz",
		"SELECT * FROM t WHERE id = 10 ORDER BY zz DESC LIMIT 1",
		"SELECT COUNT (*) FROM t ORDER BY zz",
		"SELECT COUNT (*) FROM u ORDER BY n",
		"UPDATE t SET zz = 1",
		"UPDATE t SET zz = 1 WHERE id = 10",
		"UPDATE u SET n = 1",
		"UPDATE t SET n = zz",
		"UPDATE t SET n = n + s",
		"UPDATE t SET n = NOT n",
		"UPDATE t SET n = 'a'",
		"UPDATE t SET n = b WHERE id = 10",
		"UPDATE t SET s = id",
		"UPDATE t SET b = 1",
		"UPDATE t SET s = NULL + 1", // which is an Int
		"UPDATE t SET id = s",
		"UPDATE t SET id = NULL = NULL",
	} {
		want(t, b, s, "")
	}
	for _, where := range []string{"zz", "zz = 1", "id", "1", "'a'", "n + 1", "s", "id = 'a'", "n = b", "NOT n", "b AND n", "b + 1 = 1", "id = 10 AND zz", "id = 10 AND n", "id > 10 AND s = 1", "NULL + NULL"} {
		for _, s := range []string{"SELECT * FROM t", "SELECT COUNT (*) FROM t", "UPDATE t SET n = 1", "UPDATE t SET id = 1", "DELETE FROM t"} {
			want(t, b, s+" WHERE "+where, "")
		}
	}
}

// P9.2: what is refused for its rows alone, or may be, does not fail.
func TestFailsNot(t *testing.T) {
	b := usual(t)
	for s, wanted := range map[string]string{
		"INSERT INTO t VALUES (10, 1, 'a', TRUE)":                              "IX tt, X kt:10, X kt:20", // it is there
		"INSERT INTO t VALUES (1, NULL, NULL, NULL)":                           "IX tt, X kt:1, X kt:10",
		"INSERT INTO u VALUES ('', 1)":                                         "IX tu, X ku:'', X ku:'m'",
		"SELECT id, b, id FROM t ORDER BY s DESC LIMIT 0":                      "S tt",
		"SELECT * FROM t ORDER BY id":                                          "S tt",
		"SELECT COUNT (*) FROM t ORDER BY n":                                   "S tt",
		"SELECT id FROM u":                                                     "S tu",
		"UPDATE t SET n = NULL":                                                "X tt",
		"UPDATE t SET id = NULL":                                               "X tt",
		"UPDATE t SET n = NULL WHERE id = 10":                                  "IX tt, X kt:10, X kt:20",
		"UPDATE t SET b = NULL = NULL WHERE id = 10":                           "IX tt, X kt:10, X kt:20",
		"UPDATE t SET n = n * 9223372036854775807 WHERE id = 10":               "IX tt, X kt:10, X kt:20",
		"UPDATE t SET s = 'a' WHERE NULL":                                      "X tt",
		"DELETE FROM t WHERE NULL":                                             "X tt",
		"DELETE FROM t WHERE id = NULL":                                        "X tt",
		"DELETE FROM t WHERE n + 9223372036854775807 = 0":                      "X tt",
		"SELECT * FROM t WHERE id = 10 AND 9223372036854775807 * n = 0":        "IS tt, S kt:10, S kt:20",
		"SELECT * FROM t WHERE id = 10 AND FALSE AND 9223372036854775807 < id": "IS tt, S kt:20",
	} {
		want(t, b, s, wanted)
	}
}

// P9.3: statements that change which tables there are, be there such a table or not.
func TestCreateAndDrop(t *testing.T) {
	full := after(t, usual(t), "CREATE TABLE w (id INT)")
	for i, b := range []api.Base{{}, usual(t), full} {
		for _, s := range []string{"CREATE TABLE t (id INT)", "CREATE TABLE z (id INT, n TEXT)", "DROP TABLE t", "DROP TABLE v", "DROP TABLE z"} {
			if l, e := need.Needs(b, read(s)); line(l) != "X -" || e != api.OK {
				t.Errorf("base %d: %s: %s, %d", i, s, line(l), e)
			}
		}
	}
}

// P9.3: there is no such table.
func TestNoTable(t *testing.T) {
	for _, s := range []string{"INSERT INTO z VALUES (1)", "SELECT * FROM z", "SELECT zz FROM z WHERE id = 1", "UPDATE z SET id = 1", "UPDATE z SET n = 1 WHERE id = 1", "DELETE FROM z", "DELETE FROM T WHERE id = 1"} {
		want(t, usual(t), s, "")
		want(t, api.Base{}, s, "")
	}
}

// P9.3: of a Where, whether rows are read or changed.
func TestSpans(t *testing.T) {
	b := usual(t)
	for where, wanted := range map[string]string{ // keys, and what is next; of no Bounds nothing
		"":                           "",
		"TRUE":                       "",
		"b":                          "",
		"n = 1":                      "",
		"n > 1 AND s = 'a'":          "",
		"id <> 20":                   "",
		"id = 20 OR id = 30":         "",
		"NOT id = 20":                "",
		"NOT NOT id = 20":            "",
		"id IS NULL":                 "",
		"id = id":                    "",
		"id = n":                     "",
		"id + 0 = 20":                "",
		"id < NULL":                  "",
		"20 = 20":                    "",
		"id = 20":                    "20 30",
		"20 = id":                    "20 30",
		"id = 60":                    "60 e",
		"id = 25":                    "30",
		"id = 5":                     "10",
		"id = 70":                    "e",
		"id = 20 AND n = 1":          "20 30",
		"n = 1 AND id = 20":          "20 30",
		"id = 20 AND n = 7":          "20 30", // no row is met
		"id = 20 AND FALSE":          "20 30",
		"id = 20 AND id = 20":        "20 30",
		"id = 20 AND id = 40":        "30", // what is next above the least one
		"id > 20":                    "20 30 40 50 60 e",
		"id >= 21":                   "30 40 50 60 e",
		"20 < id":                    "20 30 40 50 60 e",
		"id > 60":                    "60 e",
		"id > 61":                    "e",
		"id > 0":                     "10 20 30 40 50 60 e",
		"NOT id < 50":                "50 60 e",
		"id < 20":                    "10 20 30",
		"id <= 20":                   "10 20 30",
		"id < 15":                    "10 20",
		"id < 10":                    "10 20",
		"id < 9":                     "10",
		"id < 61":                    "10 20 30 40 50 60 e",
		"25 > id":                    "10 20 30",
		"NOT 20 < id":                "10 20 30",
		"id > 20 AND id < 40":        "20 30 40 50",
		"id > 15 AND id < 45":        "20 30 40 50",
		"id > 11 AND id < 19":        "20",
		"id > 50 AND id < 60":        "50 60 e",
		"id > 50 AND id < 59":        "50 60",
		"id > 40 AND id < 20":        "30",
		"id > 70 AND id < 80":        "e",
		"id < 0 AND id > 70":         "10",
		"id > 10 AND id > 30":        "30 40 50 60 e",
		"id < 50 AND id < 25":        "10 20 30",
		"b AND id > 40 AND n = 1":    "40 50 60 e",
		"id > 40 AND (id = 1 OR b)":  "40 50 60 e",
		"id = - 9223372036854775807": "10",
		"id = 9223372036854775807":   "e",
	} {
		end := ""
		if where != "" {
			end = " WHERE " + where
		}
		things := strings.Fields(wanted)
		for _, s := range []struct{ s, on, keys string }{
			{"SELECT * FROM t", "IS", "S"},
			{"SELECT COUNT (*) FROM t", "IS", "S"},
			{"SELECT s FROM t", "IS", "S"},
			{"UPDATE t SET n = 1", "IX", "X"},
			{"UPDATE t SET b = NULL", "IX", "X"},
			{"DELETE FROM t", "IX", "X"},
		} {
			all := s.keys + " tt"
			if len(things) > 0 {
				all = s.on + " tt"
			}
			for _, key := range things {
				if key != "e" {
					all += ", " + s.keys + " kt:" + key
				} else {
					all += ", " + s.keys + " et"
				}
			}
			want(t, b, s.s+end, all)
		}
		want(t, b, "UPDATE t SET id = id + 1"+end, "X tt") // keys move, wherever to
	}
	want(t, b, "SELECT id FROM t WHERE id = 20 ORDER BY n DESC LIMIT 0", "IS tt, S kt:20, S kt:30")
	want(t, b, "UPDATE u SET id = 1 WHERE s = 'm'", "IX tu, X ku:'m', X eu") // the first column has another name here
	want(t, b, "UPDATE u SET s = 'x' WHERE s = 'm'", "X tu")
	want(t, b, "SELECT * FROM u WHERE s > '' AND s < 'mm'", "IS tu, S ku:'', S ku:'m', S eu")
	want(t, b, "SELECT * FROM u WHERE id = 30", "S tu")
	want(t, b, "DELETE FROM v WHERE b = TRUE", "IX tv, X ev")
	want(t, b, "DELETE FROM v", "X tv")
	want(t, b, "UPDATE v SET b = NOT b WHERE b = TRUE", "X tv")
}

// P9.3: what is refused, the first one first.
func TestRefused(t *testing.T) {
	b := usual(t)
	for _, s := range []string{"BEGIN", "COMMIT", "ROLLBACK"} {
		wantRefused(t, b, read(s), api.ErrKind)
		wantRefused(t, api.Base{}, read(s), api.ErrKind)
	}
	many := read("SELECT * FROM t")
	many.Where = make([]api.Op, api.MaxOps+1)
	for _, c := range []struct {
		s      api.Statement
		wanted api.Errno
	}{
		{api.Statement{}, api.ErrKind},
		{api.Statement{Kind: api.Rollback + 1, Limit: -1}, api.ErrKind},
		{api.Statement{Kind: -1, Limit: -1}, api.ErrKind},
		{api.Statement{Kind: math.MaxInt, Limit: -1}, api.ErrKind},
		{api.Statement{Kind: math.MinInt, Limit: -1}, api.ErrKind},
		{api.Statement{Kind: api.Begin}, api.ErrForm}, // ahead of its kind
		{api.Statement{Kind: api.Commit, Table: "t", Limit: -1}, api.ErrForm},
		{api.Statement{Kind: api.Rollback, Limit: 1}, api.ErrForm},
		{api.Statement{Kind: api.Drop, Table: "t"}, api.ErrForm},
		{api.Statement{Kind: api.Drop, Table: "", Limit: -1}, api.ErrForm},
		{api.Statement{Kind: api.Drop, Table: "ninebytes", Limit: -1}, api.ErrSize},
		{api.Statement{Kind: api.Create, Table: "t", Limit: -1}, api.ErrSize},
		{api.Statement{Kind: api.Insert, Table: "t", Limit: -1}, api.ErrSize},
		{api.Statement{Kind: api.Insert, Table: "z", Row: []api.Value{num(math.MinInt)}, Limit: -1}, api.ErrRange},
		{api.Statement{Kind: api.Insert, Table: "t", Row: []api.Value{str(strings.Repeat("x", api.MaxText+1))}, Limit: -1}, api.ErrSize},
		{api.Statement{Kind: api.Select, Table: "t", Limit: -2}, api.ErrRange},
		{api.Statement{Kind: api.Select, Table: "t", Down: true, Limit: -1}, api.ErrForm},
		{many, api.ErrFull},
		{api.Statement{Kind: api.Update, Table: "t", Set: "n", Limit: -1}, api.ErrShort},
		{api.Statement{Kind: api.Delete, Table: "t", Set: "id", Limit: -1}, api.ErrForm},
		{api.Statement{Kind: api.Delete, Table: "SELECT", Limit: -1}, api.ErrForm},
	} {
		wantRefused(t, b, c.s, c.wanted)
	}
	for name, spoil := range map[string]func(b *api.Base){
		"a table twice":   func(b *api.Base) { b.Tables[1] = b.Tables[0] },
		"another name":    func(b *api.Base) { b.Tables[2].Name = "" },
		"no columns":      func(b *api.Base) { b.Tables[0].Cols = nil },
		"no index":        func(b *api.Base) { b.Tables[0].Index = api.Tree{} },
		"a row goes":      func(b *api.Base) { b.Tables[0].Rows[0] = nil },
		"a row's key":     func(b *api.Base) { b.Tables[1].Rows[0][0] = str("n") },
		"a page's next":   func(b *api.Base) { b.Tables[0].Index.Pages[0].Next = math.MaxInt },
		"too many tables": func(b *api.Base) { b.Tables = make([]api.Table, api.MaxTables+1) },
	} {
		b := usual(t)
		spoil(&b)
		for _, s := range []api.Statement{{}, read("BEGIN"), {Kind: api.Begin}, read("SELECT * FROM t"), read("SELECT zz FROM z"), read("CREATE TABLE t (x INT)"), read("INSERT INTO v VALUES (TRUE)")} {
			if l, e := need.Needs(b, s); len(l) > 0 || e != api.ErrState {
				t.Errorf("%s: %v: %v, %d", name, s, l, e)
			}
		}
	}
}

// P9.3: of as many rows as may be each key is needed.
func TestMany(t *testing.T) {
	b := after(t, api.Base{}, "CREATE TABLE t (id INT, n INT)")
	wanted := "IS tt"
	for i := range api.MaxSlots {
		b = after(t, b, "INSERT INTO t VALUES ("+strconv.Itoa(i*7%api.MaxSlots)+", 1)")
		wanted += ", S kt:" + strconv.Itoa(i)
	}
	want(t, b, "SELECT * FROM t WHERE id >= 0", wanted+", S et")
	want(t, b, "SELECT * FROM t WHERE id < 100", wanted+", S et")
	want(t, b, "INSERT INTO t VALUES (40, 1)", "IX tt, X kt:40, X et") // there is no room; that is told by the rows
	wanted = strings.ReplaceAll(strings.Replace(wanted, "IS tt", "IX tt", 1), "S k", "X k")
	want(t, b, "DELETE FROM t WHERE id >= 0", wanted+", X et")
	want(t, b, "UPDATE t SET n = n WHERE id >= 0", wanted+", X et")
}
