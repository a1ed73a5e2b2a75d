package session_test

import (
	"math"
	"slices"
	"strconv"
	"strings"
	"testing"

	"padlock/api"
	"padlock/session"
)

// wantRefused: with that error, and nothing else.
func wantRefused(t *testing.T, scripts [][]string, p []int, want api.Errno) {
	t.Helper()
	if o, e := session.Run(scripts, p); e != want || len(o.Replies) > 0 || len(o.Commits) > 0 || len(o.Base.Tables) > 0 {
		t.Errorf("%d sessions, %d picks: %v, %d, want %d", len(scripts), len(p), o, e, want)
	}
}

// P10.1: what is refused, the first one first.
func TestRefused(t *testing.T) {
	long := make([]string, api.MaxScript+1)
	create := []string{"CREATE TABLE t (id INT)"}
	for _, c := range []struct {
		scripts [][]string
		picks   []int
		want    api.Errno
	}{
		{nil, nil, api.ErrSize},
		{[][]string{}, []int{}, api.ErrSize},
		{nil, []int{0}, api.ErrSize},
		{nil, []int{-1}, api.ErrSize},
		{make([][]string, api.MaxSessions+1), nil, api.ErrSize},
		{make([][]string, api.MaxSessions+1), []int{9}, api.ErrSize},
		{make([][]string, 5000), nil, api.ErrSize},
		{[][]string{create}, make([]int, api.MaxPicks+1), api.ErrSize},
		{[][]string{create}, slices.Repeat([]int{7}, api.MaxPicks+1), api.ErrSize},
		{[][]string{long}, nil, api.ErrSize},
		{[][]string{create, nil, nil, long}, nil, api.ErrSize},
		{[][]string{create, long, nil}, []int{-1}, api.ErrSize},
		{[][]string{make([]string, 5000)}, nil, api.ErrSize},

		{[][]string{create}, []int{1}, api.ErrRange},
		{[][]string{create}, []int{-1}, api.ErrRange},
		{[][]string{create}, []int{0, 0, 0, 1}, api.ErrRange},
		{[][]string{create, nil, nil, nil}, []int{3, 2, 1, 0, 4}, api.ErrRange},
		{[][]string{create, nil}, []int{math.MaxInt, 0}, api.ErrRange},
		{[][]string{create, nil}, []int{math.MinInt, 0}, api.ErrRange},
		{[][]string{nil}, []int{1}, api.ErrRange},
	} {
		wantRefused(t, c.scripts, c.picks, c.want)
	}
}

// P10.1: as much as may be is not refused, and nothing at all neither.
func TestLimits(t *testing.T) {
	var l [][]string
	var p []int
	for range api.MaxSessions {
		l = append(l, slices.Repeat([]string{"BEGIN", "ROLLBACK"}, api.MaxScript/2))
	}
	for i := range api.MaxPicks {
		p = append(p, i%api.MaxSessions)
	}
	o, e := session.Run(l, p)
	if e != api.OK || len(o.Replies) != api.MaxSessions || len(o.Commits) != 0 || len(o.Base.Tables) != 0 {
		t.Fatal(o, e)
	}
	for i, r := range o.Replies {
		if len(r) != api.MaxScript || r[0].Txn != i+1 || r[18].Txn != 36+i+1 || r[19].Code != api.OK {
			t.Errorf("session %d: %v", i, r)
		}
	}
	for _, l := range [][][]string{{nil}, {{}}, make([][]string, api.MaxSessions)} {
		o, e := session.Run(l, make([]int, api.MaxPicks))
		if e != api.OK || show(o) != show(api.Outcome{Replies: make([][]api.Reply, len(l))}) {
			t.Error(o, e)
		}
	}
}

// The document's example of the whole.
func TestCounter(t *testing.T) {
	ready := script("CREATE TABLE t (id INT, n INT); INSERT INTO t VALUES (1, 0)")
	const add = "BEGIN; SELECT n FROM t WHERE id = 1; UPDATE t SET n = n + 1 WHERE id = 1; COMMIT"
	p := play(t, ready, slices.Repeat([]int{1, 2}, 20), add, add)
	p.told(1, "1 OK; 1 OK 1 (0); 1 OK 1; 1 OK")
	p.told(2, "2 OK; 2 OK 1 (0); 2 ErrDead; - ErrState")
	p.commits(1)
	p.rows("t", "1 1")
	p = play(t, ready, slices.Repeat([]int{2, 1}, 20), add, add)
	p.told(1, "2 OK; 2 OK 1 (0); 2 ErrDead; - ErrState")
	p.told(2, "1 OK; 1 OK 1 (0); 1 OK 1; 1 OK")
	p = play(t, ready, picks(2, 20, 1, 20), add, add) // one behind the other
	p.told(2, "1 OK; 1 OK 1 (0); 1 OK 1; 1 OK")
	p.told(1, "2 OK; 2 OK 1 (1); 2 OK 1; 2 OK")
	p.commits(1, 2)
	p.rows("t", "1 2")
}

// P10.1: sessions go as the picks say, then all from the first one on, again and again.
func TestTurns(t *testing.T) {
	const two = "BEGIN; COMMIT"
	for _, c := range []struct {
		picks   []int
		begun   [3]int // the transaction of each session
		commits []int
	}{
		{nil, [3]int{1, 2, 3}, []int{1, 2, 3}},
		{[]int{0}, [3]int{1, 2, 3}, []int{1, 2, 3}}, // behind the picks the first one goes again
		{[]int{1}, [3]int{2, 1, 3}, []int{1, 2, 3}},
		{[]int{2}, [3]int{2, 3, 1}, []int{1, 2, 3}},
		{[]int{2, 0}, [3]int{2, 3, 1}, []int{2, 1, 3}},
		{[]int{2, 2}, [3]int{2, 3, 1}, []int{1, 2, 3}},
		{[]int{2, 1, 0}, [3]int{3, 2, 1}, []int{3, 2, 1}},
		{[]int{2, 1, 0, 1}, [3]int{3, 2, 1}, []int{2, 3, 1}},
		{[]int{0, 1, 2, 2, 1, 0}, [3]int{1, 2, 3}, []int{3, 2, 1}},
		{[]int{0, 0, 0, 0, 0, 1}, [3]int{1, 2, 3}, []int{1, 2, 3}}, // who is over does nothing
		{[]int{2, 2, 2, 1, 2, 1, 1, 0}, [3]int{3, 2, 1}, []int{1, 2, 3}},
	} {
		o, e := session.Run([][]string{script(two), script(two), script(two)}, c.picks)
		begun := [3]int{}
		for i, r := range o.Replies {
			begun[i] = r[0].Txn
		}
		if e != api.OK || begun != c.begun || !slices.Equal(o.Commits, c.commits) {
			t.Errorf("%v: %v, %v, %d", c.picks, begun, o.Commits, e)
		}
	}
}

// unread: statements that are refused as they are read.
func unread() map[string]api.Errno {
	sum := strings.TrimSuffix(strings.Repeat("1+", 19), "+")
	return map[string]api.Errno{
		strings.Repeat(" ", api.MaxSource+1): api.ErrSize,
		"SELECT * FROM t ?":                  api.ErrForm,
		"?":                                  api.ErrForm,
		"DELETE FROM t WHERE 1a":             api.ErrForm,
		"DELETE FROM t WHERE n = 'a":         api.ErrShort,
		"INSERT INTO t VALUES (9223372036854775808, 1)": api.ErrOver,
		strings.Repeat("( ", api.MaxTokens+1):           api.ErrFull,
		"SELECT ?":                                      api.ErrForm, // Cut's error is ahead of Parse's
		"":                                              api.ErrShort,
		"SELECT":                                        api.ErrShort,
		"BEGIN BEGIN":                                   api.ErrForm,
		"begin":                                         api.ErrForm,
		"COMMIT 1":                                      api.ErrForm,
		"ROLLBACK ROLLBACK":                             api.ErrForm,
		"DELETE FROM t t":                               api.ErrForm,
		"DROP TABLE ninebytes":                          api.ErrSize,
		"CREATE TABLE v (id INT, id INT)":               api.ErrTwice,
		"CREATE TABLE v (a INT,b INT,c INT,d INT,e INT,f INT,g)":  api.ErrFull,
		"DELETE FROM t WHERE " + strings.Repeat("NOT ", 40) + "b": api.ErrFull, // of ops
		"UPDATE t SET n = " + sum + " WHERE " + sum + " = n":      api.ErrFull, // Check's: too long to be shown
	}
}

// P10.2: what is refused of a statement as it is read is told, and that is all: no transaction begins, and none is given up.
func TestUnread(t *testing.T) {
	for s, want := range unread() {
		if n := steps(t, usual(), s); n != 1 {
			t.Errorf("%s: %d steps", s, n)
		}
		p := play(t, usual(), nil, s+"; BEGIN; UPDATE t SET n = 7 WHERE id = 10; "+s+"; SELECT n FROM t WHERE id = 10; COMMIT; "+s)
		p.told(1, "- "+codes[want]+"; 1 OK; 1 OK 1; 1 "+codes[want]+"; 1 OK 1 (7); 1 OK; - "+codes[want])
		p.commits(1)
		p.rows("t", "10 7; 20 2; 30 3; 40 4; 50 5")
	}
}

// P10.2: what is read at its bounds is not refused.
func TestRead(t *testing.T) {
	p := play(t, nil, nil, strings.Repeat(" ", api.MaxSource-5)+"BEGIN; \t\r\nCOMMIT\n")
	p.told(1, "1 OK; 1 OK")
	p.commits(1)
}

// P10.2: Begin, Commit and Rollback, in a transaction and in none.
func TestStates(t *testing.T) {
	p := play(t, usual(), nil, "COMMIT; ROLLBACK; BEGIN; BEGIN; COMMIT; COMMIT; BEGIN; ROLLBACK; ROLLBACK; COMMIT; BEGIN; BEGIN; ROLLBACK")
	p.told(1, "- ErrState; - ErrState; 1 OK; 1 ErrState; 1 OK; - ErrState; 2 OK; 2 OK; - ErrState; - ErrState; 3 OK; 3 ErrState; 3 OK")
	p.commits(1)
	p = play(t, usual(), nil, "BEGIN; UPDATE t SET n = 7 WHERE id = 10; BEGIN; SELECT n FROM t WHERE id = 10; ROLLBACK; SELECT n FROM t WHERE id = 10; COMMIT; BEGIN; DELETE FROM t WHERE id = 20; COMMIT; ROLLBACK")
	p.told(1, "1 OK; 1 OK 1; 1 ErrState; 1 OK 1 (7); 1 OK; 2 OK 1 (1); - ErrState; 3 OK; 3 OK 1; 3 OK; - ErrState")
	p.commits(2, 3)
	p.rows("t", "10 1; -; 30 3; 40 4; 50 5")
	for s, want := range map[string]int{"BEGIN": 1, "COMMIT": 1, "ROLLBACK": 1, "BEGIN; COMMIT": 2, "BEGIN; BEGIN; ROLLBACK": 3} {
		if strings.HasSuffix(s, "BEGIN") {
			s, want = s+"; COMMIT", want+1
		}
		if n := steps(t, usual(), s); n != want {
			t.Errorf("%s: %d steps", s, n)
		}
	}
}

// P10.2, P10.3: numbers of transactions are counted as they begin, those of single statements, too.
func TestNumbers(t *testing.T) {
	p := play(t, usual(), picks(1, 1, 2, 1, 1, 1, 3, 2, 2, 9, 1, 9), "BEGIN; COMMIT; SELECT n FROM z; BEGIN; ROLLBACK", "SELECT n FROM t WHERE id = 10; BEGIN; COMMIT", "?; BEGIN")
	p.told(1, "1 OK; 1 OK; 5 ErrNone; 6 OK; 6 OK")
	p.told(2, "2 OK 1 (1); 4 OK; 4 OK")
	p.told(3, "- ErrForm; 3 OK")
	p.commits(1, 2, 4, 5)
}

// P10.2: who has no more statements, but a transaction, gives it up in one step, and is told nothing.
func TestNoMore(t *testing.T) {
	const change = "BEGIN; UPDATE t SET n = 7 WHERE id = 10"
	p := play(t, usual(), nil, change)
	p.told(1, "1 OK; 1 OK 1")
	p.commits()
	p.rows("t", "10 1; 20 2; 30 3; 40 4; 50 5")
	const look = "SELECT n FROM t WHERE id = 10; BEGIN; COMMIT"
	n := steps(t, usual(), change+"; COMMIT") - 1
	p = play(t, usual(), picks(1, n, 2, 9, 3, 2), change, look, "BEGIN; COMMIT") // it has not been given up yet
	p.told(2, "2 OK 1 (1); 4 OK; 4 OK")
	p.told(3, "3 OK; 3 OK")
	p.commits(3, 2, 4)
	p = play(t, usual(), picks(1, n+1, 2, 7, 3, 2), change, look, "BEGIN; COMMIT")
	p.told(2, "2 OK 1 (1); 3 OK; 3 OK")
	p.told(3, "4 OK; 4 OK")
	p.commits(2, 3, 4)
}

// P10.2: a step of who waits does nothing.
func TestWaiting(t *testing.T) {
	const change, look = "BEGIN; UPDATE t SET n = 7 WHERE id = 10; COMMIT", "SELECT n FROM t WHERE id = 10"
	n := steps(t, usual(), change) - 1
	for waits := range 9 {
		for _, end := range []string{"COMMIT", "ROLLBACK"} {
			s := strings.Replace(change, "COMMIT", end, 1)
			sees, commits := "2 OK 1 (7)", []int{1, 2, 3}
			if end == "ROLLBACK" {
				sees, commits = "2 OK 1 (1)", []int{2, 3}
			}
			// the third lock is the one for which it waits; behind that it has another lock to ask for, and is done then
			p := play(t, usual(), picks(1, n, 2, 3+waits, 1, 1, 2, 2, 3, 2), s, look, "BEGIN; COMMIT")
			p.told(2, sees)
			p.commits(commits...)
			p = play(t, usual(), picks(1, n, 2, 3+waits, 1, 1, 2, 1, 3, 2), s, look, "BEGIN; COMMIT")
			p.told(2, sees)
			p.commits(slices.Concat(commits[:len(commits)-2], []int{3, 2})...)
		}
	}
}

// P10.3: each lock that is lacking is a step, and doing the statement is one.
func TestSteps(t *testing.T) {
	ready := slices.Concat(usual(), script("CREATE TABLE u (s TEXT)"))
	for s, want := range map[string]int{
		"CREATE TABLE v (id INT)":                                                             2,
		"CREATE TABLE t (id INT)":                                                             2,
		"DROP TABLE t":                                                                        2,
		"DROP TABLE z":                                                                        2,
		"SELECT * FROM z":                                                                     2,
		"SELECT zz FROM t":                                                                    2,
		"INSERT INTO t VALUES (NULL, 1)":                                                      2,
		"UPDATE t SET n = 'a' WHERE id = 10":                                                  2,
		"SELECT * FROM t":                                                                     3,
		"DELETE FROM t WHERE n = 1":                                                           3,
		"UPDATE t SET id = id + 1 WHERE id = 10":                                              3,
		"SELECT * FROM t WHERE id = 25":                                                       4,
		"SELECT * FROM t WHERE id > 60":                                                       4,
		"SELECT * FROM t WHERE id = 20":                                                       5,
		"UPDATE t SET n = 1 WHERE id = 20":                                                    5,
		"DELETE FROM t WHERE id = 20":                                                         5,
		"INSERT INTO t VALUES (25, 1)":                                                        5,
		"INSERT INTO t VALUES (20, 1)":                                                        5,
		"INSERT INTO t VALUES (60, 1)":                                                        5,
		"SELECT * FROM t WHERE id > 15 AND id < 45":                                           7,
		"SELECT * FROM t WHERE id > 10":                                                       9,
		"DELETE FROM t WHERE id > 0":                                                          9,
		"BEGIN; SELECT * FROM z; SELECT * FROM z; COMMIT":                                     5,
		"BEGIN; SELECT * FROM z; CREATE TABLE v (b BOOL)":                                     5, // IS and X
		"BEGIN; DROP TABLE z; SELECT * FROM z":                                                4, // X is enough
		"BEGIN; DROP TABLE z; DROP TABLE z":                                                   4,
		"BEGIN; SELECT * FROM t; SELECT * FROM t":                                             5,
		"BEGIN; SELECT * FROM t; SELECT * FROM u":                                             6,
		"BEGIN; SELECT * FROM t; DELETE FROM t":                                               6,
		"BEGIN; DELETE FROM t; SELECT * FROM t":                                               5,
		"BEGIN; DELETE FROM t; INSERT INTO t VALUES (1, 1)":                                   7, // the table's X does not stand for its keys
		"BEGIN; SELECT * FROM t; SELECT * FROM t WHERE id = 20":                               7,
		"BEGIN; SELECT * FROM t WHERE id = 20; SELECT * FROM t WHERE id = 20":                 7,
		"BEGIN; SELECT * FROM t WHERE id = 20; SELECT * FROM t WHERE id = 30":                 8,
		"BEGIN; SELECT * FROM t WHERE id = 20; SELECT * FROM t":                               8, // IS and S
		"BEGIN; SELECT * FROM t WHERE id = 20; UPDATE t SET n = 1 WHERE id = 20":              10,
		"BEGIN; UPDATE t SET n = 1 WHERE id = 20; SELECT * FROM t WHERE id = 20":              7,
		"BEGIN; SELECT * FROM t; UPDATE t SET n = 1 WHERE id = 20":                            8, // S and IX
		"BEGIN; SELECT * FROM t; UPDATE t SET n = 1 WHERE id = 20; SELECT * FROM t":           9, // SIX is enough
		"BEGIN; UPDATE t SET n = 1 WHERE id = 20; SELECT * FROM t":                            8,
		"BEGIN; INSERT INTO t VALUES (25, 1); INSERT INTO t VALUES (26, 1)":                   8, // what is next is locked
		"BEGIN; INSERT INTO t VALUES (26, 1); INSERT INTO t VALUES (25, 1)":                   8,
		"BEGIN; INSERT INTO t VALUES (25, 1); DELETE FROM t WHERE id = 25":                    7,
		"BEGIN; DELETE FROM t WHERE id = 20; INSERT INTO t VALUES (20, 1)":                    7,
		"BEGIN; DELETE FROM t WHERE id = 20; DELETE FROM t WHERE id = 20":                     7,
		"BEGIN; CREATE TABLE v (id INT); INSERT INTO v VALUES (1); INSERT INTO v VALUES (2)":  3 + 4 + 2,
		"BEGIN; INSERT INTO u VALUES ('a'); INSERT INTO u VALUES ('b'); DELETE FROM u":        6 + 2 + 2,
		"BEGIN; UPDATE t SET n = 1 WHERE id < 30; UPDATE t SET n = 1 WHERE id > 0 AND id < 5": 8 + 1,
	} {
		n := steps(t, ready, s)
		if strings.HasPrefix(s, "BEGIN") && !strings.HasSuffix(s, "COMMIT") {
			n = steps(t, ready, s+"; ROLLBACK") - 1
		}
		if n != want {
			t.Errorf("%s: %d steps, want %d", s, n, want)
		}
	}
}

// P10.3: what is needed now: others may have changed that since a lock was waited for.
func TestNeedsNow(t *testing.T) {
	const put, look = "BEGIN; INSERT INTO t VALUES (25, 9); COMMIT", "BEGIN; SELECT id FROM t WHERE id > 15 AND id < 35; COMMIT"
	n := steps(t, usual(), put) - 1
	p := play(t, usual(), picks(1, n, 2, 20, 1, 1), put, look) // it waits for 25; behind that it needs 30 and 40
	p.told(2, "2 OK; 2 OK 3 (20) (25) (30); 2 OK")
	p.commits(1, 2)
	back := strings.Replace(put, "COMMIT", "ROLLBACK", 1)
	// It has 25, which is not there any more, so that somebody who puts it there waits, even for the next key to be free.
	p = play(t, usual(), picks(1, n, 2, 20, 1, 1, 2, 3, 3, 9, 2, 1), back, look, "INSERT INTO t VALUES (25, 8)")
	p.told(2, "2 OK; 2 OK 2 (20) (30); 2 OK")
	p.told(3, "3 OK 1")
	p.commits(2, 3)
	p.rows("t", "10 1; 20 2; 30 3; 40 4; 50 5; -; 25 8")
	for s, want := range map[string]string{ // what was waited for is not there any more, or is another one
		"BEGIN; DROP TABLE t; COMMIT":                            "2 OK; 2 ErrNone; 2 OK",
		"BEGIN; DROP TABLE t; CREATE TABLE t (x TEXT); COMMIT":   "2 OK; 2 ErrNone; 2 OK",
		"BEGIN; DROP TABLE t; CREATE TABLE t (id TEXT); COMMIT":  "2 OK; 2 ErrType; 2 OK",
		"BEGIN; DROP TABLE t; CREATE TABLE t (id INT); COMMIT":   "2 OK; 2 OK; 2 OK",
		"BEGIN; DELETE FROM t WHERE id = 20; COMMIT":             "2 OK; 2 OK 1 (30); 2 OK",
		"BEGIN; UPDATE t SET id = id + 1 WHERE id > 0; COMMIT":   "2 OK; 2 OK 2 (21) (31); 2 OK",
		"BEGIN; UPDATE t SET id = id + 1 WHERE id > 0; ROLLBACK": "2 OK; 2 OK 2 (20) (30); 2 OK",
	} {
		n := steps(t, usual(), s) - 1
		p := play(t, usual(), picks(1, n, 2, 20, 1, 1), s, look)
		p.told(2, want)
	}
}

// P10.3: two who wait for one another: the younger one is given up, whoever began to wait last.
func TestVictim(t *testing.T) {
	// Each has changed one row, and wants the other one's; rows 10 and 30 have no key in common that is next.
	const low, high = "UPDATE t SET n = 7 WHERE id = 10", "UPDATE t SET n = 8 WHERE id = 40"
	one, two := "BEGIN; "+low+"; "+high+"; COMMIT; ROLLBACK", "BEGIN; "+high+"; "+low+"; COMMIT; SELECT n FROM t WHERE id = 40"
	for _, p := range [][]int{picks(1, 6, 2, 6, 1, 4, 2, 4), picks(1, 6, 2, 6, 2, 4, 1, 4), picks(1, 6, 2, 20, 1, 20)} {
		p := play(t, usual(), p, one, two)
		p.told(1, "1 OK; 1 OK 1; 1 OK 1; 1 OK; - ErrState")
		p.told(2, "2 OK; 2 OK 1; 2 ErrDead; - ErrState; 3 OK 1 (8)")
		p.commits(1, 3)
		p.rows("t", "10 7; 20 2; 30 3; 40 8; 50 5")
	}
	for _, p := range [][]int{picks(2, 6, 1, 6, 2, 4, 1, 4), picks(2, 6, 1, 6, 1, 4, 2, 4)} {
		p := play(t, usual(), p, one, two)
		p.told(2, "1 OK; 1 OK 1; 1 OK 1; 1 OK; 3 OK 1 (8)")
		p.told(1, "2 OK; 2 OK 1; 2 ErrDead; - ErrState; - ErrState")
		p.commits(1, 3)
	}
	// A single statement may be the one that is given up.
	p := play(t, usual(), picks(1, 6, 2, 9, 1, 9), "BEGIN; "+high+"; "+low+"; COMMIT", "UPDATE t SET n = n + 1 WHERE id < 50; UPDATE t SET n = n + 1 WHERE id < 50")
	p.told(1, "1 OK; 1 OK 1; 1 OK 1; 1 OK")
	p.told(2, "2 ErrDead; 3 OK 4")
	p.commits(1, 3)
	p.rows("t", "10 8; 20 3; 30 4; 40 9; 50 5")
}

// P10.3: the victim's locks go at once, and whoever waited for them goes on with the next step; the victim, too.
func TestVictimLeaves(t *testing.T) {
	const low, high = "UPDATE t SET n = 7 WHERE id = 10", "UPDATE t SET n = 8 WHERE id = 40"
	one, two := "BEGIN; "+low+"; "+high+"; COMMIT", "BEGIN; "+high+"; "+low+"; BEGIN; COMMIT"
	// Both wait behind 1's step, in which 2 is given up. 1 asks for 50 then, is done, and commits.
	p := play(t, usual(), picks(1, 6, 2, 9, 1, 1, 1, 3, 3, 2), one, two, "BEGIN; COMMIT")
	p.commits(1, 3, 4)
	p = play(t, usual(), picks(1, 6, 2, 9, 1, 1, 1, 2, 3, 2), one, two, "BEGIN; COMMIT")
	p.commits(3, 1, 4)
	p = play(t, usual(), picks(1, 6, 2, 9, 1, 1, 2, 2), one, two, "BEGIN; COMMIT")
	p.told(2, "2 OK; 2 OK 1; 2 ErrDead; 3 OK; 3 OK")
	p.commits(3, 4, 1)
}

// P10.3: as long as there is a victim: one lock may close more than one round, and the youngest goes first.
func TestVictims(t *testing.T) {
	ready := script("CREATE TABLE t (id INT, n INT); CREATE TABLE u (id INT, n INT); CREATE TABLE v (id INT, n INT)")
	// 2 and 3 have read t, and wait for u and v, which 1 has changed; 1 wants to change t.
	const one = "BEGIN; DELETE FROM u; DELETE FROM v; DELETE FROM t; COMMIT"
	const two = "BEGIN; SELECT * FROM t; SELECT * FROM u; COMMIT"
	const three = "BEGIN; SELECT * FROM t; SELECT * FROM v; COMMIT"
	p := play(t, ready, picks(1, 6, 2, 9, 3, 9, 1, 3), one, two, three)
	p.told(1, "1 OK; 1 OK; 1 OK; 1 OK; 1 OK")
	p.told(2, "2 OK; 2 OK; 2 ErrDead; - ErrState")
	p.told(3, "3 OK; 3 OK; 3 ErrDead; - ErrState")
	p.commits(1)
	// Where the one that closes them is the youngest, it alone is given up.
	p = play(t, ready, picks(2, 4, 3, 4, 1, 6, 2, 9, 3, 9, 1, 3), one, two, three)
	p.told(1, "3 OK; 3 OK; 3 OK; 3 ErrDead; - ErrState")
	p.told(2, "1 OK; 1 OK; 1 OK; 1 OK")
	p.told(3, "2 OK; 2 OK; 2 OK; 2 OK")
	p.commits(1, 2)
	// Between them: 3 goes, 2 closes a round with 1 still, in which it is the youngest.
	p = play(t, ready, picks(2, 4, 1, 6, 3, 9, 2, 9, 1, 3), one, two, three)
	p.told(1, "2 OK; 2 OK; 2 OK; 2 ErrDead; - ErrState")
	p.told(2, "1 OK; 1 OK; 1 OK; 1 OK")
	p.told(3, "3 OK; 3 OK; 3 ErrDead; - ErrState")
	p.commits(1)
}

// P10.3: a round of three; somebody outside it waits on.
func TestRound(t *testing.T) {
	ready := script("CREATE TABLE t (id INT); CREATE TABLE u (id INT); CREATE TABLE v (id INT)")
	const one, two, three = "BEGIN; DELETE FROM t; DELETE FROM u; COMMIT", "BEGIN; DELETE FROM u; DELETE FROM v; COMMIT", "BEGIN; DELETE FROM v; DELETE FROM t; COMMIT"
	for _, order := range [][]int{{1, 2, 3}, {3, 2, 1}, {2, 3, 1}, {1, 3, 2}} {
		p := picks(1, 4, 2, 4, 3, 4)
		for _, i := range order {
			p = append(p, picks(i, 3)...)
		}
		x := play(t, ready, p, one, two, three)
		x.told(1, "1 OK; 1 OK; 1 OK; 1 OK")
		x.told(2, "2 OK; 2 OK; 2 OK; 2 OK")
		x.told(3, "3 OK; 3 OK; 3 ErrDead; - ErrState")
		x.commits(2, 1)
	}
	for _, c := range []struct {
		picks   []int
		want    []api.Errno // of 4 to 7, behind their BEGIN
		commits []int
	}{
		{picks(1, 9, 3, 9, 0, 9, 2, 1), []api.Errno{api.OK, api.OK, api.ErrDead, api.OK}, []int{1, 2, 3, 5, 7, 4}},
		{picks(3, 9, 1, 9, 0, 9, 2, 1), []api.Errno{api.OK, api.OK, api.ErrDead, api.ErrDead}, []int{1, 2, 3, 5, 4}}, // 5 waits for who stands ahead of it, too
	} {
		l := [][]string{slices.Concat(ready, script(one)), script(two), script(three), script("SELECT * FROM v; COMMIT")}
		o, e := session.Run(l, slices.Concat(picks(0, 6, 0, 4, 1, 4, 2, 4), c.picks))
		r := o.Replies
		codes := []api.Errno{r[0][5].Code, r[1][2].Code, r[2][2].Code, r[3][0].Code}
		if e != api.OK || !slices.Equal(codes, c.want) || !slices.Equal(o.Commits, c.commits) {
			t.Errorf("%v: %v, %v, %d", c.picks, codes, o.Commits, e)
		}
	}
}

// manyLocks: sessions of which each holds 63 locks, but for the last one, for which there are not enough.
func manyLocks(t *testing.T, last string) (api.Outcome, int) {
	t.Helper()
	scripts := [][]string{script("CREATE TABLE t (id INT); CREATE TABLE u (id INT)"), nil, nil, nil}
	for i := range 60 {
		table, id := "t", i/2
		if i%2 == 1 {
			table = "u"
		}
		if id == 29 {
			id = 40
		}
		at := i % 4
		scripts[at] = append(scripts[at], "INSERT INTO "+table+" VALUES ("+strconv.Itoa(id)+")")
	}
	p := picks(0, 4, 0, 15*5, 1, 15*5, 2, 15*5, 3, 15*5)
	for i := range 3 {
		scripts[i] = append(scripts[i], script("BEGIN; SELECT * FROM t WHERE id < 30; SELECT * FROM u WHERE id < 30")...)
		p = append(p, picks(i, 1+33+31)...)
	}
	ready := len(scripts[3])
	scripts[3] = append(scripts[3], script(last)...)
	o, e := session.Run(scripts, append(p, picks(3, 60)...))
	if e != api.OK {
		t.Fatal(e)
	}
	return o, ready
}

// P10.3: where there are as many locks as may be, who asks for one more is given up.
func TestLocksFull(t *testing.T) {
	// The three hold 189. The last one has 4 for its Insert, and 7 keys; the 8th is the 201st lock.
	o, at := manyLocks(t, "BEGIN; INSERT INTO t VALUES (50); SELECT * FROM t WHERE id < 30; COMMIT; SELECT * FROM t WHERE id < 30")
	for i, want := range []api.Reply{
		{Txn: 66, Code: api.OK}, {Txn: 66, Code: api.OK, Result: api.Result{Count: 1}}, {Txn: 66, Code: api.ErrFull}, {Txn: 0, Code: api.ErrState}, {Txn: 67, Code: api.ErrFull},
	} {
		if r := o.Replies[3][at+i]; show(r) != show(want) {
			t.Errorf("%d: %v, want %v", i, r, want)
		}
	}
	if len(o.Commits) != 62 || len(o.Base.Tables[0].Rows) != 31 || len(o.Base.Tables[0].Rows[30]) != 0 { // what it did is undone
		t.Error(o.Commits, o.Base.Tables[0].Rows)
	}
	// As many as may be are enough: 4, and for id < 5 the keys from 0 to 6.
	o, at = manyLocks(t, "BEGIN; INSERT INTO t VALUES (50); SELECT * FROM t WHERE id < 5; COMMIT")
	if r := o.Replies[3][at:]; r[2].Code != api.OK || r[2].Result.Count != 5 || r[3].Code != api.OK || !slices.Contains(o.Commits, 66) {
		t.Error(r, o.Commits)
	}
	o, at = manyLocks(t, "BEGIN; INSERT INTO t VALUES (50); SELECT * FROM t WHERE id < 6; COMMIT")
	if r := o.Replies[3][at:]; r[2].Code != api.ErrFull || r[3].Code != api.ErrState || slices.Contains(o.Commits, 66) {
		t.Error(r, o.Commits)
	}
	// More of what it has is no more locks, but what it waits for is one.
	o, at = manyLocks(t, "BEGIN; SELECT * FROM t WHERE id < 7; SELECT * FROM t; INSERT INTO t VALUES (1); COMMIT")
	if r := o.Replies[3][at:]; r[1].Result.Count != 7 || r[2].Result.Count != 30 || r[3].Code != api.ErrFull || r[3].Txn != 66 || r[4].Code != api.ErrState {
		t.Error(r)
	}
}
