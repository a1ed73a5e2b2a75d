package base_test

import (
	"fmt"
	"math"
	"slices"
	"strconv"
	"strings"
	"testing"

	"padlock/api"
	"padlock/base"
	"padlock/codec"
	"padlock/lex"
	"padlock/parse"
	"padlock/tree"
)

var null = api.Value{}

func num(n int) api.Value            { return api.Value{Kind: api.Int, Int: n} }
func str(s string) api.Value         { return api.Value{Kind: api.Text, Text: s} }
func row(l ...api.Value) []api.Value { return l }

// read a statement that can be read.
func read(s string) api.Statement {
	l, _, e := lex.Cut(s)
	if e != api.OK {
		panic(s)
	}
	x, _, e := parse.Parse(l)
	if e != api.OK {
		panic(s)
	}
	return x
}

// after some statements, none of which is refused.
func after(t *testing.T, b api.Base, l ...string) api.Base {
	t.Helper()
	for _, s := range l {
		x, _, e := base.Run(b, read(s))
		if e != api.OK || base.Check(x) != api.OK {
			t.Fatalf("%s: %v, %d", s, x, e)
		}
		b = x
	}
	return b
}

// usual base of these tests: of t the second place is empty, the keys stand in another order than the places.
func usual(t *testing.T) api.Base {
	t.Helper()
	return after(t, api.Base{},
		"CREATE TABLE t (id INT, n INT, s TEXT, b BOOL)",
		"INSERT INTO t VALUES (3, 1, 'b', TRUE)",
		"INSERT INTO t VALUES (9, 1, 'b', TRUE)",
		"INSERT INTO t VALUES (1, 2, 'a', NULL)",
		"INSERT INTO t VALUES (5, NULL, 'b', FALSE)",
		"INSERT INTO t VALUES (2, 1, NULL, TRUE)",
		"INSERT INTO t VALUES (4, 2, 'ab', FALSE)",
		"DELETE FROM t WHERE id = 9",
		"CREATE TABLE u (s TEXT)",
		"INSERT INTO u VALUES ('x')",
		"INSERT INTO u VALUES ('')",
	)
}

// told: a value as a statement tells it.
func told(v api.Value) string {
	switch v.Kind {
	case api.Bool:
		return []string{"FALSE", "TRUE"}[v.Int]
	case api.Int:
		return strconv.Itoa(v.Int)
	case api.Text:
		return "'" + v.Text + "'"
	}
	return "NULL"
}

// lines of values, an empty one as -.
func lines(rows [][]api.Value) string {
	var l []string
	for _, row := range rows {
		var s []string
		for _, v := range row {
			s = append(s, told(v))
		}
		if len(s) == 0 {
			s = append(s, "-")
		}
		l = append(l, strings.Join(s, " "))
	}
	return strings.Join(l, "; ")
}

// same: are two things the same, as they are written? (An empty list may be nil or not.)
func same(a, b any) bool { return fmt.Sprint(a) == fmt.Sprint(b) }

// brief: the beginning of what is written of a thing.
func brief(x any) string {
	s := fmt.Sprint(x)
	return s[:min(len(s), 1000)]
}

// wantRefused: with that error and nothing else, and nothing is changed.
func wantRefused(t *testing.T, b api.Base, s api.Statement, want api.Errno) {
	t.Helper()
	was := fmt.Sprint(b)
	x, r, e := base.Run(b, s)
	if e != want || len(x.Tables) > 0 || len(r.Rows) > 0 || r.Count != 0 {
		t.Errorf("%v: %s, %v, %d, want %d", s, brief(x), r, e, want)
	}
	if is := fmt.Sprint(b); is != was {
		t.Errorf("%v: the base is %s, was %s", s, brief(is), brief(was))
	}
}

// wantChange of the first table, the rows of which stand so in their places then; no other table changes.
func wantChange(t *testing.T, b api.Base, s string, count int, want string) api.Base {
	t.Helper()
	x, r, e := base.Run(b, read(s))
	if e != api.OK || len(r.Rows) > 0 || r.Count != count || len(x.Tables) != len(b.Tables) {
		t.Fatalf("%s: %s, %v, %d", s, brief(x), r, e)
	}
	if is := lines(x.Tables[0].Rows); is != want {
		t.Errorf("%s: %s\nwant %s", s, is, want)
	}
	if base.Check(x) != api.OK || !same(x.Tables[1:], b.Tables[1:]) || x.Tables[0].Name != b.Tables[0].Name || !same(x.Tables[0].Cols, b.Tables[0].Cols) {
		t.Errorf("%s: %s, was %s", s, brief(x), brief(b))
	}
	return x
}

// wantRows that a Select shows; nothing changes.
func wantRows(t *testing.T, b api.Base, s string, count int, want string) {
	t.Helper()
	x, r, e := base.Run(b, read(s))
	if is := lines(r.Rows); is != want || r.Count != count || e != api.OK {
		t.Errorf("%s: %s, %d, %d, want %s, %d", s, is, r.Count, e, want, count)
	}
	if !same(x, b) {
		t.Errorf("%s: %v, was %v", s, x, b)
	}
}

// keyOf a value.
func keyOf(v api.Value) []byte {
	k, _ := codec.Encode(row(v))
	return k
}

// put numbers as keys in a tree, each with its place in the list (those that stand behind a - have none).
func put(t *testing.T, x api.Tree, l ...string) api.Tree {
	t.Helper()
	for i, s := range l {
		if n, e := strconv.Atoi(s); e == nil {
			x = putOne(t, x, n, i)
		}
	}
	return x
}

// putOne number as a key in a tree.
func putOne(t *testing.T, x api.Tree, n, place int) api.Tree {
	t.Helper()
	y, e := tree.Insert(x, keyOf(num(n)), place)
	if e != api.OK {
		t.Fatal(e)
	}
	return y
}

// take numbers as keys from a tree.
func take(t *testing.T, x api.Tree, l ...int) api.Tree {
	t.Helper()
	for _, n := range l {
		y, e := tree.Delete(x, keyOf(num(n)))
		if e != api.OK {
			t.Fatal(e)
		}
		x = y
	}
	return x
}

// P8.2
func TestCreateAndDrop(t *testing.T) {
	x, r, e := base.Run(api.Base{}, read("CREATE TABLE t (a INT, b TEXT)"))
	want := api.Base{Tables: []api.Table{{Name: "t", Cols: []api.Col{{Name: "a", Kind: api.Int}, {Name: "b", Kind: api.Text}}, Index: tree.New()}}}
	if !same(x, want) || !same(r, api.Result{}) || e != api.OK {
		t.Errorf("%v, %v, %d", x, r, e)
	}
	b := after(t, usual(t), "CREATE TABLE T (b BOOL)", "CREATE TABLE a (id INT)")
	if l := b.Tables; l[0].Name != "t" || l[1].Name != "u" || l[2].Name != "T" || l[3].Name != "a" || !same(l[:2], usual(t).Tables) {
		t.Errorf("%v", b)
	}
	for name, at := range map[string]int{"t": 0, "u": 1, "T": 2, "a": 3} {
		wantRefused(t, b, read("CREATE TABLE "+name+" (x INT)"), api.ErrTwice) // though there are as many as may be
		x, r, e := base.Run(b, read("DROP TABLE "+name))
		if want := slices.Delete(slices.Clone(b.Tables), at, at+1); !same(x.Tables, want) || !same(r, api.Result{}) || e != api.OK {
			t.Errorf("drop %s: %v, %v, %d", name, x, r, e)
		}
		wantRefused(t, x, read("DROP TABLE "+name), api.ErrNone)
		y, _, e := base.Run(x, read("CREATE TABLE "+name+" (x INT)")) // there is room again, and it has forgotten all
		if l := y.Tables; e != api.OK || !same(l[:3], x.Tables) || !same(l[3], api.Table{Name: name, Cols: []api.Col{{Name: "x", Kind: api.Int}}, Index: tree.New()}) {
			t.Errorf("create %s: %v, %d", name, y, e)
		}
	}
	wantRefused(t, b, read("CREATE TABLE z (x INT)"), api.ErrFull)
	wantRefused(t, usual(t), read("CREATE TABLE u (s TEXT)"), api.ErrTwice)
}

// P8.2: what is refused ahead of what the tables say.
func TestRefusedAhead(t *testing.T) {
	b := usual(t)
	wrong := api.Base{Tables: []api.Table{{}}}
	good := []string{
		"CREATE TABLE z (x INT)", "DROP TABLE t", "INSERT INTO t VALUES (7, 1, 'b', TRUE)", "SELECT * FROM t", "UPDATE t SET n = 1", "DELETE FROM t",
		"BEGIN", "COMMIT", "ROLLBACK",
	}
	for _, s := range good {
		x := read(s)
		wantRefused(t, wrong, x, api.ErrState)
		for _, kind := range []int{0, -1, 10, math.MinInt, math.MaxInt} {
			y := x
			y.Kind = kind
			wantRefused(t, b, y, api.ErrKind)
		}
		x.Limit = -2
		wantRefused(t, wrong, x, api.ErrState)
		want := api.ErrForm
		if x.Kind == api.Select {
			want = api.ErrRange
		}
		wantRefused(t, b, x, want)
		x.Limit, x.Order, x.Down = -1, "n", true
		if x.Kind != api.Select {
			wantRefused(t, b, x, api.ErrForm)
		}
	}
	for _, s := range []string{"BEGIN", "COMMIT", "ROLLBACK"} {
		wantRefused(t, b, read(s), api.ErrKind)
		wantRefused(t, api.Base{}, read(s), api.ErrKind)
	}
	for _, s := range []string{
		"DROP TABLE z", "INSERT INTO z VALUES (NULL)", "SELECT * FROM z", "SELECT zz FROM z WHERE 1", "UPDATE z SET zz = 'a' + 1", "DELETE FROM z WHERE zz",
		"DROP TABLE T", "SELECT * FROM tt",
	} {
		wantRefused(t, b, read(s), api.ErrNone)
		wantRefused(t, api.Base{}, read(s), api.ErrNone)
	}
	for i, c := range []struct {
		s    api.Statement
		want api.Errno
	}{
		{api.Statement{}, api.ErrKind},
		{api.Statement{Kind: api.Create, Table: "t", Limit: -1}, api.ErrSize},
		{api.Statement{Kind: api.Create, Table: "TABLE", Limit: -1}, api.ErrForm},
		{api.Statement{Kind: api.Drop, Table: "ninebytes", Limit: -1}, api.ErrSize},
		{api.Statement{Kind: api.Insert, Table: "z", Limit: -1}, api.ErrSize},
		{api.Statement{Kind: api.Insert, Table: "t", Row: row(num(math.MinInt), null, null, null), Limit: -1}, api.ErrRange},
		{api.Statement{Kind: api.Select, Table: "t", Names: make([]string, 7), Limit: -1}, api.ErrSize},
		{api.Statement{Kind: api.Update, Table: "t", Set: "n", Limit: -1}, api.ErrShort},
		{api.Statement{Kind: api.Delete, Table: "t", Where: make([]api.Op, 41), Limit: -1}, api.ErrFull},
		{api.Statement{Kind: api.Begin}, api.ErrForm},
	} {
		wantRefused(t, b, c.s, c.want)
		if parse.Check(c.s) != c.want {
			t.Errorf("statement %d: %d", i, parse.Check(c.s))
		}
	}
}

// P8.3: which rows are met, asked by a Select, a Delete and an Update.
func TestMet(t *testing.T) {
	b := usual(t)
	const most = "9223372036854775807"
	for where, want := range map[string]string{
		"":                                 "1 2 3 4 5",
		"id = 3":                           "3",
		"id = 9":                           "",
		"3 = id":                           "3",
		"id > 2":                           "3 4 5",
		"id >= 2":                          "2 3 4 5",
		"id < 2":                           "1",
		"id <= 2":                          "1 2",
		"2 < id AND 5 > id":                "3 4",
		"id > 4 AND id < 2":                "",
		"id = 1 AND id = 2":                "",
		"id = 1 OR id = 5":                 "1 5",
		"NOT id = 3":                       "1 2 4 5",
		"id <> 3 AND id > 1":               "2 4 5",
		"b":                                "2 3",
		"NOT b":                            "4 5",
		"b IS NULL":                        "1",
		"b IS NOT NULL":                    "2 3 4 5",
		"n = 1":                            "2 3",
		"n < 2":                            "2 3", // of Null it is not known
		"n + n > id":                       "1",
		"s = 'b'":                          "3 5",
		"s < 'b'":                          "1 4",
		"s > 'a' AND id > 3":               "4 5",
		"n IS NULL OR s IS NULL":           "2 5",
		"TRUE":                             "1 2 3 4 5",
		"FALSE":                            "",
		"NULL":                             "",
		"NULL = id":                        "",
		"id = NULL":                        "",
		"id IS NOT NULL":                   "1 2 3 4 5",
		"id <= 2 AND id + 1 < 3":           "1",
		"id = 7 AND " + most + " + id = 0": "", // no row is there that it could be reckoned of
		"n IS NULL AND id >= 5":            "5",
		"id > 5 AND n + " + most + " = 0":  "", // the row at the bound is reckoned, too: it makes Null
	} {
		if where != "" {
			where = " WHERE " + where
		}
		ids := strings.Fields(want)
		wantRows(t, b, "SELECT id FROM t"+where, len(ids), strings.Join(ids, "; "))
		x, r, e := base.Run(b, read("DELETE FROM t"+where))
		left := slices.DeleteFunc([]string{"3", "", "1", "5", "2", "4"}, func(id string) bool { return slices.Contains(ids, id) })
		if l, _ := base.Rows(x, "t"); r.Count != len(ids) || e != api.OK || len(l) != len(left)-1 || base.Check(x) != api.OK {
			t.Errorf("delete%s: %v, %v, %d", where, l, r, e)
		}
		x, r, e = base.Run(b, read("UPDATE t SET s = 'met'"+where))
		if r.Count != len(ids) || e != api.OK || base.Check(x) != api.OK {
			t.Errorf("update%s: %v, %d", where, r, e)
		}
		wantRows(t, x, "SELECT id FROM t WHERE s = 'met'", len(ids), strings.Join(ids, "; "))
	}
	for where, want := range map[string]api.Errno{
		"zz = 1":                              api.ErrNone,
		"id":                                  api.ErrType,
		"s":                                   api.ErrType,
		"id = 'a'":                            api.ErrType,
		"n + b = 1":                           api.ErrType,
		"id > 7 AND zz":                       api.ErrNone,
		most + " + n = 0":                     api.ErrOver,
		"id + " + most + " = 0 AND FALSE":     api.ErrOver,
		"id <= 5 AND id * " + most + " = 0":   api.ErrOver,
		"id = 1 AND n + " + most + " = 0":     api.ErrOver,
		"id > 4 AND n + " + most + " = 0":     api.ErrOver, // at the bound
		"id = 3 AND id * " + most + " = 7":    api.ErrOver,
		"0 - id - " + most + " > 0 OR id > 7": api.ErrOver,
	} {
		for _, s := range []string{"SELECT * FROM t", "SELECT COUNT (*) FROM t", "SELECT * FROM t LIMIT 0", "DELETE FROM t", "UPDATE t SET n = 1", "UPDATE t SET id = 1"} {
			s, limit, _ := strings.Cut(s, " LIMIT")
			if limit != "" {
				limit = " LIMIT" + limit
			}
			wantRefused(t, b, read(s+" WHERE "+where+limit), want)
		}
	}
}

// P8.4
func TestInsert(t *testing.T) {
	b := after(t, api.Base{}, "CREATE TABLE t (id INT, n INT, s TEXT, b BOOL)", "CREATE TABLE u (s TEXT)")
	b = wantChange(t, b, "INSERT INTO t VALUES (3, 1, 'it', TRUE)", 1, "3 1 'it' TRUE")
	b = wantChange(t, b, "INSERT INTO t VALUES (- 1, NULL, NULL, NULL)", 1, "3 1 'it' TRUE; -1 NULL NULL NULL")
	b = wantChange(t, b, "INSERT INTO t VALUES (2, - 9223372036854775807, '', FALSE)", 1, "3 1 'it' TRUE; -1 NULL NULL NULL; 2 -9223372036854775807 '' FALSE")
	if want := put(t, tree.New(), "3", "-1", "2"); !same(b.Tables[0].Index, want) {
		t.Errorf("%v", b.Tables[0].Index)
	}
	for s, want := range map[string]api.Errno{
		"4, 1, 'a'":                api.ErrSize,
		"4, 1, 'a', TRUE, 1":       api.ErrSize,
		"4":                        api.ErrSize,
		"NULL, 1, 'a', TRUE":       api.ErrType,
		"'4', 1, 'a', TRUE":        api.ErrType,
		"4, TRUE, 'a', TRUE":       api.ErrType,
		"4, 1, 1, TRUE":            api.ErrType,
		"4, 1, 'a', 1":             api.ErrType,
		"3, 1, 'it', 1":            api.ErrType, // ahead of its key, which is there
		"3, 1":                     api.ErrSize,
		"3, 1, 'it', TRUE":         api.ErrTwice,
		"- 1, 1, 'it', TRUE":       api.ErrTwice,
		"2, NULL, NULL, NULL":      api.ErrTwice,
		"3, NULL, 'other', FALSE":  api.ErrTwice,
		"FALSE, NULL, NULL, FALSE": api.ErrType,
	} {
		wantRefused(t, b, read("INSERT INTO t VALUES ("+s+")"), want)
	}
	b = after(t, b, "DELETE FROM t WHERE id = 3")
	b = wantChange(t, b, "INSERT INTO t VALUES (3, 7, 'new', NULL)", 1, "-; -1 NULL NULL NULL; 2 -9223372036854775807 '' FALSE; 3 7 'new' NULL")
	b = after(t, b, "INSERT INTO u VALUES ('')", "INSERT INTO u VALUES ('"+strings.Repeat("x", api.MaxText)+"')", "INSERT INTO u VALUES ('''')")
	wantRows(t, b, "SELECT * FROM u", 3, "''; '''; '"+strings.Repeat("x", api.MaxText)+"'")
	wantRefused(t, b, read("INSERT INTO u VALUES ('')"), api.ErrTwice)
	b = after(t, b, "CREATE TABLE truth (b BOOL)", "INSERT INTO truth VALUES (TRUE)", "INSERT INTO truth VALUES (FALSE)")
	wantRows(t, b, "SELECT * FROM truth", 2, "FALSE; TRUE")
	zeros := api.Statement{Kind: api.Insert, Table: "u", Row: row(str(strings.Repeat("\x00", api.MaxText))), Limit: -1}
	x, r, e := base.Run(b, zeros) // of all values that with the longest key
	if r.Count != 1 || e != api.OK || base.Check(x) != api.OK {
		t.Errorf("%v, %d", r, e)
	}
	wantRefused(t, x, zeros, api.ErrTwice)
}

// P8.4: a table has room for MaxSlots rows, empty ones too.
func TestInsertFull(t *testing.T) {
	b := after(t, api.Base{}, "CREATE TABLE t (id INT)")
	var names []string
	for i := range api.MaxSlots {
		name := strconv.Itoa(i * 7 % api.MaxSlots)
		names = append(names, name)
		b = wantChange(t, b, "INSERT INTO t VALUES ("+name+")", 1, strings.Join(names, "; "))
		if want := put(t, tree.New(), names...); !same(b.Tables[0].Index, want) {
			t.Fatalf("%v\nwant %v", b.Tables[0].Index, want)
		}
	}
	wantRefused(t, b, read("INSERT INTO t VALUES (100)"), api.ErrFull)
	wantRefused(t, b, read("INSERT INTO t VALUES (39)"), api.ErrTwice)
	wantRefused(t, b, read("INSERT INTO t VALUES ('39')"), api.ErrType)
	b = after(t, b, "DELETE FROM t WHERE id = 39")
	wantRefused(t, b, read("INSERT INTO t VALUES (39)"), api.ErrFull)
	b = after(t, b, "DELETE FROM t")
	if len(b.Tables[0].Rows) != api.MaxSlots {
		t.Errorf("%v", b)
	}
	wantRefused(t, b, read("INSERT INTO t VALUES (39)"), api.ErrFull)
	wantRows(t, b, "SELECT * FROM t", 0, "")
}

// wide: a table t of numbers whose index has so many leaves, ten numbers of which each is for.
func wide(t *testing.T, leaves int, ids ...int) api.Base {
	t.Helper()
	var x api.Tree
	var level, lows []int // of the pages of a level: their places, and the numbers from which on they are
	for i := range leaves {
		x.Pages = append(x.Pages, api.Page{Leaf: true, Next: -1})
		level, lows = append(level, i), append(lows, 10*i)
	}
	for {
		for i := range len(level) - 1 {
			x.Pages[level[i]].Next, x.Pages[level[i]].High = level[i+1], keyOf(num(lows[i+1]))
		}
		if len(level) == 1 {
			break
		}
		var above, aboveLows []int
		groups := (len(level) + api.MaxKeys) / (api.MaxKeys + 1)
		for g := range groups {
			from, to := g*len(level)/groups, (g+1)*len(level)/groups
			p := api.Page{Kids: slices.Clone(level[from:to]), Next: -1}
			for _, low := range lows[from+1 : to] {
				p.Keys = append(p.Keys, keyOf(num(low)))
			}
			above, aboveLows = append(above, len(x.Pages)), append(aboveLows, lows[from])
			x.Pages = append(x.Pages, p)
		}
		level, lows = above, aboveLows
	}
	x.Root = level[0]
	out := api.Table{Name: "t", Cols: []api.Col{{Name: "id", Kind: api.Int}}}
	for i, id := range ids {
		y, e := tree.Insert(x, keyOf(num(id)), i)
		if e != api.OK {
			t.Fatal(e)
		}
		x, out.Rows = y, append(out.Rows, row(num(id)))
	}
	out.Index = x
	return api.Base{Tables: []api.Table{out}}
}

// P8.4, P8.6: what the tree refuses, with slots left.
func TestPagesFull(t *testing.T) {
	b := wide(t, 3197, 1, 2, 3, 4, 11)
	if len(b.Tables[0].Index.Pages) != api.MaxPages || base.Check(b) != api.OK {
		t.Fatal(len(b.Tables[0].Index.Pages))
	}
	wantRefused(t, b, read("INSERT INTO t VALUES (5)"), api.ErrFull)
	wantRefused(t, b, read("INSERT INTO t VALUES (4)"), api.ErrTwice)
	wantRefused(t, b, read("UPDATE t SET id = 5 WHERE id = 11"), api.ErrFull)
	wantRefused(t, b, read("UPDATE t SET id = 4 WHERE id = 11"), api.ErrTwice)
	wantChange(t, b, "INSERT INTO t VALUES (12)", 1, "1; 2; 3; 4; 11; 12")
	wantChange(t, b, "UPDATE t SET id = id + 1 WHERE id < 5", 4, "2; 3; 4; 5; 11")
	b = wide(t, 3196, 1, 2, 3, 4, 11, 12, 13, 14, 21, 31) // there is room for one page more
	wantChange(t, b, "UPDATE t SET id = id - 16 WHERE id = 21", 1, "1; 2; 3; 4; 11; 12; 13; 14; 5; 31")
	wantChange(t, b, "UPDATE t SET id = id - 16 WHERE id = 31", 1, "1; 2; 3; 4; 11; 12; 13; 14; 21; 15")
	wantRefused(t, b, read("UPDATE t SET id = id - 16 WHERE id > 20"), api.ErrFull)
}

// P8.4: empty places, and keys that go one by one.
func TestDelete(t *testing.T) {
	b := usual(t)
	const all = "3 1 'b' TRUE; -; 1 2 'a' NULL; 5 NULL 'b' FALSE; 2 1 NULL TRUE; 4 2 'ab' FALSE"
	index := take(t, put(t, tree.New(), "3", "9", "1", "5", "2", "4"), 9)
	for s, want := range map[string]struct {
		gone []int
		rows string
	}{
		" WHERE id = 9":            {nil, all},
		" WHERE n = 5":             {nil, all},
		" WHERE id = 5":            {[]int{5}, "3 1 'b' TRUE; -; 1 2 'a' NULL; -; 2 1 NULL TRUE; 4 2 'ab' FALSE"},
		" WHERE id > 1 AND id < 5": {[]int{2, 3, 4}, "-; -; 1 2 'a' NULL; 5 NULL 'b' FALSE; -; -"},
		" WHERE b":                 {[]int{2, 3}, "-; -; 1 2 'a' NULL; 5 NULL 'b' FALSE; -; 4 2 'ab' FALSE"},
		"":                         {[]int{1, 2, 3, 4, 5}, "-; -; -; -; -; -"},
	} {
		x := wantChange(t, b, "DELETE FROM t"+s, len(want.gone), want.rows)
		if want := take(t, index, want.gone...); !same(x.Tables[0].Index, want) {
			t.Errorf("%s: %v\nwant %v", s, x.Tables[0].Index, want)
		}
		wantChange(t, x, "DELETE FROM t"+s, 0, want.rows)
	}
}
