package session_test

import (
	"fmt"
	"slices"
	"testing"

	"padlock/api"
	"padlock/base"
	"padlock/lex"
	"padlock/parse"
	"padlock/session"
)

// die: numbers that look drawn, the same each time.
type die uint64

func (d *die) n(most int) int {
	*d = *d*6364136223846793005 + 1442695040888963407
	return int(uint64(*d>>33) % uint64(most))
}

// one of some.
func (d *die) one(l ...string) string { return l[d.n(len(l))] }

// where over the table t, or none.
func (d *die) where() string {
	k := func() string { return d.one("1", "2", "3", "4", "5", "6", "7") }
	switch d.n(8) {
	case 0:
		return ""
	case 1, 2, 3:
		return " WHERE id = " + k()
	case 4:
		return " WHERE id > " + k() + " AND id <= " + k()
	case 5:
		return " WHERE id " + d.one("<", ">", "<=", ">=") + " " + k()
	case 6:
		return " WHERE id = " + k() + d.one(" AND n = 1", " OR n = 2", " AND s IS NULL", " AND 9223372036854775807 * n = 1")
	}
	return d.one(" WHERE n < 3", " WHERE s = 'a'", " WHERE zz = 1", " WHERE n + 1", " WHERE id <> 3")
}

// statement that looks drawn.
func (d *die) statement() string {
	switch d.n(16) {
	case 0, 1, 2:
		return "INSERT INTO t VALUES (" + d.one("1", "2", "3", "4", "5", "6", "7", "NULL") + ", " + d.one("1", "2", "NULL") + ", " + d.one("'a'", "'b'", "NULL") + ")"
	case 3, 4, 5:
		return "SELECT " + d.one("*", "id, n", "COUNT (*)", "s", "zz") + " FROM t" + d.where() + d.one("", "", " ORDER BY n", " ORDER BY s DESC LIMIT 2")
	case 6, 7, 8:
		return "UPDATE t SET " + d.one("n = n + 1", "n = n + 1", "s = 'c'", "s = NULL", "id = id + 1", "id = 8 - id", "n = n * 9223372036854775807", "n = 'a'") + d.where()
	case 9, 10:
		return "DELETE FROM t" + d.where()
	case 11, 12:
		return d.one("SELECT * FROM u", "SELECT * FROM u WHERE s > 'a'", "INSERT INTO u VALUES ('"+d.one("a", "b", "c")+"')", "DELETE FROM u WHERE s = '"+d.one("a", "b")+"'", "UPDATE u SET s = 'd' WHERE s = 'a'")
	case 13:
		return d.one("CREATE TABLE ", "CREATE TABLE ", "DROP TABLE ") + d.one("u", "v", "w", "x")
	case 14:
		return d.one("DROP TABLE u", "DROP TABLE t", "DELETE FROM v", "INSERT INTO v VALUES (1)", "?", "SELECT", "")
	}
	return d.one("BEGIN", "COMMIT", "ROLLBACK")
}

// source of a statement that looks drawn, where the columns of those that are created are told.
func (d *die) source() string {
	s := d.statement()
	if len(s) > 12 && s[:12] == "CREATE TABLE" {
		s += d.one(" (s TEXT)", " (s TEXT)", " (id INT, n INT, s TEXT)")
	}
	return s
}

// sessions that look drawn, and picks: the first one makes ready, most often ahead of all.
func (d *die) sessions() ([][]string, []int) {
	ready := script("CREATE TABLE t (id INT, n INT, s TEXT); CREATE TABLE u (s TEXT); INSERT INTO u VALUES ('a')")
	for _, id := range []string{"3", "1", "5", "2", "6"} {
		ready = append(ready, "INSERT INTO t VALUES ("+id+", "+d.one("1", "2", "NULL")+", "+d.one("'a'", "'b'")+")")
	}
	l := [][]string{ready}
	p := picks(0, d.n(2)*2*len(ready)+20)
	for range 1 + d.n(api.MaxSessions-1) {
		l = append(l, nil)
	}
	tables := d.n(4) == 0 // are they about tables, more than about rows?
	for i := range l {
		open := false
		for range d.n(api.MaxScript - len(ready) + 1) {
			s := d.source()
			if tables && d.n(2) == 0 {
				s = "CREATE TABLE " + d.one("v", "w", "x", "y") + " (id INT)"
			}
			if d.n(4) == 0 {
				s = map[bool]string{false: "BEGIN", true: d.one("COMMIT", "ROLLBACK")}[open]
				open = !open
			}
			l[i] = append(l[i], s)
		}
	}
	for range d.n(150) {
		p = append(p, slices.Repeat([]int{d.n(len(l))}, 1+d.n(d.n(8)+1))...)
	}
	return l, p
}

// What comes of drawn sessions is what the words of the document say.
func TestDrawn(t *testing.T) {
	var all model
	for seed := range 600 {
		d := die(seed)
		l, p := d.sessions()
		given := fmt.Sprintf("%q %v", l, p)
		o, e := session.Run(l, p)
		m, want := modelled(l, p)
		if e != api.OK || show(o) != show(want) {
			t.Fatalf("seed %d: %q %v:\n%v, %d\nwant %v", seed, l, p, o, e, want)
		}
		if is := fmt.Sprintf("%q %v", l, p); is != given {
			t.Fatalf("%s\nwas %s", is, given)
		}
		all.dead, all.full, all.undone, all.waited = all.dead+m.dead, all.full+m.full, all.undone+m.undone, all.waited+m.waited
	}
	if all.dead < 50 || all.full < 20 || all.undone < 500 || all.waited < 1000 { // were they drawn so that all this is there?
		t.Error(all.dead, all.full, all.undone, all.waited)
	}
}

// done: is a statement one that is done over tables?
func done(source string) (api.Statement, bool) {
	l, _, e := lex.Cut(source)
	if e != api.OK {
		return api.Statement{}, false
	}
	s, _, e := parse.Parse(l)
	return s, e == api.OK && parse.Check(s) == api.OK && s.Kind < api.Begin
}

// serial: the base behind the transactions that have committed, done one behind the other; each must be told what it was.
func serial(t *testing.T, l [][]string, o api.Outcome) api.Base {
	t.Helper()
	b := api.Base{}
	for _, txn := range o.Commits {
		for i, told := range o.Replies {
			for k, r := range told {
				s, ok := done(l[i][k])
				if r.Txn != txn || !ok {
					continue
				}
				x, is, e := base.Run(b, s)
				if e == api.OK {
					b = x
				}
				if e != r.Code || show(is) != show(r.Result) {
					t.Fatalf("%q: transaction %d: %s: %v, one behind the other %v, %d", l, txn, l[i][k], r, is, e)
				}
			}
		}
	}
	return b
}

// rowsOf all tables, by their keys.
func rowsOf(b api.Base) string {
	s := ""
	for _, x := range b.Tables {
		l, e := base.Rows(b, x.Name)
		s += fmt.Sprintln(x.Name, x.Cols, l, e)
	}
	return s
}

// What comes of it: whatever the picks, all is as if the transactions that have committed had been done one behind the other,
// in that order; and all come to their end.
func TestSerial(t *testing.T) {
	ahead := 0 // of transactions that have begun ahead of others, and committed behind them
	for seed := range 200 {
		d := die(5000 + seed)
		l, p := d.sessions()
		for range 3 { // other picks
			o, e := session.Run(l, p)
			if e != api.OK || base.Check(o.Base) != api.OK {
				t.Fatalf("%q %v: %v, %d", l, p, o, e)
			}
			for i := range l {
				if len(o.Replies[i]) != len(l[i]) {
					t.Fatalf("%q %v: session %d: %v", l, p, i, o.Replies[i])
				}
			}
			if rows, want := rowsOf(o.Base), rowsOf(serial(t, l, o)); rows != want {
				t.Fatalf("%q %v: %s\nwant %s", l, p, rows, want)
			}
			if !slices.IsSorted(o.Commits) {
				ahead++
			}
			slices.Reverse(p)
			p = append(p, p...)[:min(2*len(p), api.MaxPicks)]
		}
	}
	if ahead < 100 {
		t.Error(ahead)
	}
}
