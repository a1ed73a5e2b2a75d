package session_test

import (
	"slices"
	"strconv"
	"strings"
	"testing"

	"padlock/api"
	"padlock/base"
	"padlock/codec"
	"padlock/session"
	"padlock/tree"
)

// P10.4: what statements are told, and what they make, is what base's Run tells and makes, in a transaction and in none.
func TestDone(t *testing.T) {
	l := script("CREATE TABLE t (id INT, s TEXT, b BOOL); INSERT INTO t VALUES (3, 'a', TRUE); INSERT INTO t VALUES (1, NULL, NULL); INSERT INTO t VALUES (2, 'b', FALSE); INSERT INTO t VALUES (3, 'c', TRUE); SELECT * FROM t; SELECT s, id FROM t WHERE id > 1 ORDER BY s DESC LIMIT 1; SELECT COUNT (*) FROM t WHERE b; UPDATE t SET s = 'x' WHERE b; UPDATE t SET id = 1 WHERE id = 2; UPDATE t SET id = 0 - id; DELETE FROM t WHERE s = 'x'; SELECT * FROM z; SELECT zz FROM t; DELETE FROM t WHERE id * 9223372036854775807 = 0; INSERT INTO t VALUES (1); DROP TABLE z; CREATE TABLE t (id INT)")
	b, said, wanted := api.Base{}, []api.Reply(nil), []api.Errno{4: api.ErrTwice, 9: api.ErrTwice, 12: api.ErrNone, 13: api.ErrNone, 14: api.ErrOver, 15: api.ErrSize, 16: api.ErrNone, 17: api.ErrTwice}
	for i, s := range l {
		x, r, e := base.Run(b, read(s))
		if e != wanted[i] {
			t.Fatalf("%s: %d", s, e)
		}
		if e == api.OK {
			b = x
		}
		said = append(said, api.Reply{Txn: i + 1, Code: e, Result: r})
	}
	o, e := session.Run([][]string{l}, nil)
	if e != api.OK || show(o.Replies[0]) != show(said) || show(o.Base) != show(b) {
		t.Errorf("%v, %d\nwant %v\n%v", o, e, said, b)
	}
	for i := range l { // each is a transaction of its own, which commits whatever it was told
		if o.Commits[i] != i+1 {
			t.Error(o.Commits)
		}
		said[i].Txn = 1
	}
	o, e = session.Run([][]string{slices.Concat([]string{"BEGIN"}, l, []string{"COMMIT"})}, nil)
	if e != api.OK || show(o.Replies[0][1:len(l)+1]) != show(said) || show(o.Base) != show(b) || !slices.Equal(o.Commits, []int{1}) {
		t.Errorf("%v, %d\nwant %v\n%v", o, e, said, b)
	}
}

// P10.4: a single statement's transaction ends as it is done; an open one goes on, whatever a statement is told.
func TestOpen(t *testing.T) {
	const errors = "INSERT INTO t VALUES (20, 1); INSERT INTO t VALUES (1); SELECT zz FROM t; SELECT * FROM z; UPDATE t SET n = 'a'; UPDATE t SET n = n * 9223372036854775807; UPDATE t SET id = 7; UPDATE t SET id = NULL"
	p := play(t, usual(), picks(1, 40), "BEGIN; UPDATE t SET n = 9 WHERE id = 10; "+errors+"; SELECT n FROM t WHERE id = 10; COMMIT", "SELECT COUNT (*) FROM t")
	p.told(1, "1 OK; 1 OK 1; 1 ErrTwice; 1 ErrSize; 1 ErrNone; 1 ErrNone; 1 ErrType; 1 ErrOver; 1 ErrTwice; 1 ErrType; 1 OK 1 (9); 1 OK")
	p.commits(1, 2)
	p = play(t, usual(), picks(1, 100), errors+"; BEGIN", "BEGIN; DROP TABLE t; ROLLBACK")
	p.told(1, "1 ErrTwice; 2 ErrSize; 3 ErrNone; 4 ErrNone; 5 ErrType; 6 ErrOver; 7 ErrTwice; 8 ErrType; 9 OK")
	p.told(2, "10 OK; 10 OK; 10 OK")
	p.commits(1, 2, 3, 4, 5, 6, 7, 8)
	// What it has locked for a statement that was refused stays locked till its end.
	p = play(t, usual(), picks(1, 6, 2, 9, 1, 1), "BEGIN; INSERT INTO t VALUES (20, 1); COMMIT", "SELECT n FROM t WHERE id = 20")
	p.told(1, "1 OK; 1 ErrTwice; 1 OK")
	p.commits(1, 2)
}

// P10.4: where there is no room, all of a transaction is given up.
func TestFull(t *testing.T) {
	scripts := [][]string{{"CREATE TABLE t (id INT, n INT)"}, nil, script("BEGIN; UPDATE t SET n = 9 WHERE id = 7; INSERT INTO t VALUES (50, 1); DELETE FROM t WHERE id = 8; INSERT INTO t VALUES (51, 1); COMMIT; INSERT INTO t VALUES (52, 1); BEGIN; SELECT n FROM t WHERE id = 7; INSERT INTO t VALUES (7, 1); COMMIT")}
	for i := range api.MaxSlots - 1 {
		scripts[i%2] = append(scripts[i%2], "INSERT INTO t VALUES ("+strconv.Itoa(i)+", 1)")
	}
	if len(scripts[0]) > api.MaxScript {
		scripts[0], scripts[1] = scripts[0][:api.MaxScript], append(scripts[1], scripts[0][api.MaxScript:]...)
	}
	o, e := session.Run(scripts, picks(0, 200, 1, 200))
	if e != api.OK {
		t.Fatal(e)
	}
	p := played{t, o, api.MaxSlots}
	p.told(2, "1 OK; 1 OK 1; 1 OK 1; 1 OK 1; 1 ErrFull; - ErrState; 2 ErrFull; 3 OK; 3 OK 1 (1); 3 ErrTwice; 3 OK")
	p.commits(3)
	x := o.Base.Tables[0].Rows
	if len(x) != api.MaxSlots || len(x[api.MaxSlots-1]) != 0 || slices.ContainsFunc(x[:api.MaxSlots-1], func(r []api.Value) bool { return len(r) != 2 || r[1].Int != 1 }) {
		t.Error(x)
	}

	ready := script("CREATE TABLE a (id INT); CREATE TABLE b (id INT); CREATE TABLE c (id INT)")
	p = play(t, ready, nil, "BEGIN; INSERT INTO a VALUES (1); CREATE TABLE d (id INT); CREATE TABLE a (id INT); CREATE TABLE e (id INT); COMMIT; SELECT * FROM a; CREATE TABLE f (id INT); CREATE TABLE g (id INT); BEGIN")
	p.told(1, "1 OK; 1 OK 1; 1 OK; 1 ErrTwice; 1 ErrFull; - ErrState; 2 OK; 3 OK; 4 ErrFull; 5 OK")
	p.commits(2, 3)
	p.tables("a b c f")
	p.rows("a", "-")
}

// back: a table as it is once all that a transaction did to its rows is undone; it had so many slots then.
func back(t *testing.T, was api.Table, slots int) api.Table {
	t.Helper()
	x := api.Table{Name: was.Name, Cols: was.Cols, Rows: make([][]api.Value, slots), Index: tree.New()}
	for i, r := range was.Rows {
		if len(r) == 0 {
			continue
		}
		k, e := codec.Encode(r[:1])
		x.Rows[i] = r
		if x.Index, e = tree.Insert(x.Index, k, i); e != api.OK {
			t.Fatal(e)
		}
	}
	return x
}

// worn: what makes ready a table whose index has other pages than a new one of its keys would have, and two more tables.
func worn() []string {
	return script("CREATE TABLE t (id INT, n INT); INSERT INTO t VALUES (8, 1); INSERT INTO t VALUES (1, 2); INSERT INTO t VALUES (2, 3); INSERT INTO t VALUES (3, 4); INSERT INTO t VALUES (4, 5); INSERT INTO t VALUES (5, 6); INSERT INTO t VALUES (6, 7); INSERT INTO t VALUES (7, 8); DELETE FROM t WHERE id = 2 OR id = 5; CREATE TABLE u (s TEXT); INSERT INTO u VALUES ('a'); INSERT INTO u VALUES ('b'); CREATE TABLE v (b BOOL)")
}

// ends of a transaction that is given up.
var ends = []string{"; ROLLBACK", ""}

// P10.5: rows that were changed are undone, and the index of their table is a new one.
func TestRowsUndone(t *testing.T) {
	b := after(t, api.Base{}, worn()...)
	if show(back(t, b.Tables[0], 8)) == show(b.Tables[0]) {
		t.Fatal("the pages are those of a new index")
	}
	for s, slots := range map[string]int{
		"INSERT INTO t VALUES (2, 9)":                               9,
		"INSERT INTO t VALUES (9, 9); INSERT INTO t VALUES (10, 9)": 10,
		"DELETE FROM t WHERE id = 3":                                8,
		"DELETE FROM t":                                             8,
		"UPDATE t SET n = n + 1 WHERE id = 3":                       8,
		"UPDATE t SET n = NULL":                                     8,
		"UPDATE t SET id = id + 1":                                  8,
		"UPDATE t SET id = 0 - id":                                  8,
		"INSERT INTO t VALUES (2, 9); DELETE FROM t WHERE id = 2":   9,
		"DELETE FROM t WHERE id = 3; INSERT INTO t VALUES (3, 9)":   9,
		"DELETE FROM t WHERE id = 3; INSERT INTO t VALUES (3, 9); DELETE FROM t WHERE id = 3":                  9,
		"DELETE FROM t WHERE id = 3; UPDATE t SET id = 3 WHERE id = 4; UPDATE t SET id = 4 WHERE id = 6":       8,
		"UPDATE t SET n = n + 1; UPDATE t SET n = n * 2; UPDATE t SET n = 0; SELECT * FROM t":                  8,
		"UPDATE t SET id = id + 1; UPDATE t SET id = id + 1; UPDATE t SET id = id - 3":                         8,
		"UPDATE t SET id = id + 10; INSERT INTO t VALUES (1, 9); INSERT INTO t VALUES (2, 9); DELETE FROM t":   10,
		"INSERT INTO t VALUES (2, 9); INSERT INTO t VALUES (2, 9); UPDATE t SET id = 5 WHERE id = 2":           9,
		"SELECT * FROM t; DELETE FROM t WHERE id = 77; DELETE FROM t WHERE id = 7; UPDATE t SET id = 'a'; ?":   8,
		"DELETE FROM t; INSERT INTO t VALUES (1, 2); INSERT INTO t VALUES (2, 2); INSERT INTO t VALUES (8, 1)": 11,
	} {
		for _, end := range ends {
			p := play(t, worn(), nil, "BEGIN; "+s+end)
			p.base(api.Base{Tables: []api.Table{back(t, b.Tables[0], slots), b.Tables[1], b.Tables[2]}})
			p.commits()
		}
	}
}

// P10.5: where no rows were changed there is nothing to be undone, and the index stays, too.
func TestNothingUndone(t *testing.T) {
	b := after(t, api.Base{}, worn()...)
	for _, s := range []string{"SELECT * FROM t", "SELECT * FROM t WHERE id = 3; SELECT * FROM u", "UPDATE t SET n = 1 WHERE id = 77", "UPDATE t SET n = n", "DELETE FROM t WHERE id = 2", "INSERT INTO t VALUES (3, 1)", "UPDATE t SET id = 3", "SELECT zz FROM t", "?"} {
		for _, end := range ends {
			play(t, worn(), nil, "BEGIN; "+s+end).base(b)
			play(t, worn(), nil, "BEGIN; "+s+"; COMMIT").base(b)
		}
	}
}

// P10.5: a table that was created goes, one that was dropped stands at its place again, as it was.
func TestTablesUndone(t *testing.T) {
	b := after(t, api.Base{}, worn()...)
	for _, s := range []string{
		"CREATE TABLE w (id INT)",
		"CREATE TABLE w (id INT); INSERT INTO w VALUES (1)",
		"DROP TABLE t",
		"DROP TABLE u",
		"DROP TABLE v",
		"DROP TABLE t; DROP TABLE u; DROP TABLE v",
		"DROP TABLE v; DROP TABLE u; DROP TABLE t",
		"DROP TABLE u; DROP TABLE v; DROP TABLE t",
		"DROP TABLE t; CREATE TABLE t (id INT, n INT)",
		"DROP TABLE u; CREATE TABLE u (x BOOL, y BOOL); INSERT INTO u VALUES (TRUE, FALSE); DROP TABLE u",
		"DROP TABLE u; CREATE TABLE u (x BOOL); INSERT INTO u VALUES (TRUE); UPDATE u SET x = NOT x; DROP TABLE t; DELETE FROM u",
		"CREATE TABLE w (id INT); DROP TABLE t; CREATE TABLE x (id INT); DROP TABLE w; CREATE TABLE y (id INT); DROP TABLE u; CREATE TABLE t (id BOOL)",
		"CREATE TABLE w (id INT); DROP TABLE w; CREATE TABLE w (id TEXT); INSERT INTO w VALUES ('a'); DROP TABLE w; CREATE TABLE w (id INT); INSERT INTO w VALUES (7)",
		"DROP TABLE z; CREATE TABLE t (id INT); DROP TABLE t; DROP TABLE t",
	} {
		for _, end := range ends {
			p := play(t, worn(), nil, "BEGIN; "+s+end)
			p.base(b)
			p.commits()
		}
	}
	for s, want := range map[string]api.Base{ // what was done to rows ahead of that is undone as well
		"INSERT INTO u VALUES ('c'); DROP TABLE u":                                                                            {Tables: []api.Table{b.Tables[0], back(t, b.Tables[1], 3), b.Tables[2]}},
		"DELETE FROM t; DROP TABLE t; CREATE TABLE t (s TEXT); INSERT INTO t VALUES ('a')":                                    {Tables: []api.Table{back(t, b.Tables[0], 8), b.Tables[1], b.Tables[2]}},
		"INSERT INTO v VALUES (TRUE); DROP TABLE t; INSERT INTO u VALUES ('c'); INSERT INTO v VALUES (FALSE); DELETE FROM v":  {Tables: []api.Table{b.Tables[0], back(t, b.Tables[1], 3), back(t, b.Tables[2], 2)}},
		"DROP TABLE t; UPDATE u SET s = 'c' WHERE s = 'a'; DROP TABLE u; CREATE TABLE u (s TEXT); INSERT INTO u VALUES ('a')": {Tables: []api.Table{b.Tables[0], back(t, b.Tables[1], 2), b.Tables[2]}},
	} {
		play(t, worn(), nil, "BEGIN; "+s).base(want)
	}
}

// P10.5: what others did stays, and so do the slots of what is undone.
func TestOthersStay(t *testing.T) {
	const one = "BEGIN; INSERT INTO t VALUES (5, 1); DELETE FROM t WHERE id = 10; UPDATE t SET n = 7 WHERE id = 5; ROLLBACK; INSERT INTO t VALUES (6, 6)"
	const two = "INSERT INTO t VALUES (60, 2); BEGIN; DELETE FROM t WHERE id = 40; INSERT INTO t VALUES (45, 3); COMMIT; UPDATE t SET n = 8 WHERE id = 60"
	n := steps(t, usual(), strings.Split(one, "; ROLLBACK")[0]+"; ROLLBACK") - 1
	for at := range n {
		p := play(t, usual(), picks(1, at, 2, 40, 1, n-at+1), one, two)
		p.told(2, map[bool]string{true: "1 OK 1; 2 OK; 2 OK 1; 2 OK 1; 2 OK; 3 OK 1", false: "2 OK 1; 3 OK; 3 OK 1; 3 OK 1; 3 OK; 4 OK 1"}[at == 0])
		want := "10 1; 20 2; 30 3; -; 50 5; 60 8; 45 3; -; 6 6"
		if at > 5 { // it has put 5 ahead of the other one
			want = "10 1; 20 2; 30 3; -; 50 5; -; 60 8; 45 3; 6 6"
		}
		p.rows("t", want)
	}
	// Keys that others put stay where two tables are meant.
	ready := script("CREATE TABLE t (id INT); CREATE TABLE u (id INT); INSERT INTO t VALUES (1); INSERT INTO u VALUES (1)")
	p := play(t, ready, picks(1, 6, 2, 40), "BEGIN; DELETE FROM t; SELECT * FROM t", "DELETE FROM u; INSERT INTO u VALUES (2)")
	p.rows("t", "1")
	p.rows("u", "-; 2")
}

// P10.5: who is given up since they are in a round, or since there is no room, is undone just so.
func TestGivenUp(t *testing.T) {
	const one, two = "BEGIN; DELETE FROM u; DELETE FROM t WHERE n > 0; COMMIT", "BEGIN; UPDATE t SET id = id + 1; INSERT INTO t VALUES (1, 1); DELETE FROM u; COMMIT"
	b := after(t, api.Base{}, worn()...)
	p := play(t, worn(), picks(1, 4, 2, 40, 1, 1), strings.Replace(one, "COMMIT", "ROLLBACK", 1), two)
	p.told(2, "2 OK; 2 OK 6; 2 OK 1; 2 ErrDead; - ErrState")
	p.base(api.Base{Tables: []api.Table{back(t, api.Table{Name: "t", Cols: b.Tables[0].Cols, Rows: b.Tables[0].Rows}, 9), back(t, b.Tables[1], 2), b.Tables[2]}})
	p = play(t, worn(), picks(1, 4, 2, 40, 1, 1), one, two)
	p.told(1, "1 OK; 1 OK 2; 1 OK 6; 1 OK")
	p.commits(1)
	p.rows("t", "-; -; -; -; -; -; -; -; -")
	p.rows("u", "-; -")
}

// P10.5: commits stand in the order in which they come; then the locks go, to whoever waits for them.
func TestCommits(t *testing.T) {
	const write, look = "BEGIN; UPDATE t SET n = n + 1 WHERE id = 10; COMMIT", "BEGIN; SELECT n FROM t WHERE id = 10; COMMIT"
	for end, sees := range map[string]string{"COMMIT": "(2)", "ROLLBACK": "(1)"} {
		p := play(t, usual(), picks(1, 6, 3, 9, 2, 9, 1, 1, 2, 3), strings.Replace(write, "COMMIT", end, 1), look, look) // both have it then
		p.told(2, "3 OK; 3 OK 1 "+sees+"; 3 OK")
		p.told(3, "2 OK; 2 OK 1 "+sees+"; 2 OK")
		if end == "COMMIT" {
			p.commits(1, 3, 2)
		} else {
			p.commits(3, 2)
		}
	}
	// One behind the other in the queue: who writes has it first, and who reads behind that.
	p := play(t, usual(), picks(1, 6, 2, 9, 3, 9, 1, 1, 3, 9, 2, 3, 3, 9), write, write, look)
	p.told(2, "2 OK; 2 OK 1; 2 OK")
	p.told(3, "3 OK; 3 OK 1 (3); 3 OK")
	p.commits(1, 2, 3)
	p.rows("t", "10 3; 20 2; 30 3; 40 4; 50 5")
}
