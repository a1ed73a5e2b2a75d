package need_test

import (
	"bytes"
	"fmt"
	"slices"
	"sort"
	"strconv"
	"testing"

	"padlock/api"
	"padlock/base"
	"padlock/codec"
	"padlock/expr"
	"padlock/lock"
	"padlock/need"
	"padlock/parse"
)

// The words of the document, asked in another way: keys are those of the rows, never those of the index; a statement fails,
// whatever the rows are, if it is refused where there are none.

// table of a base; nil: there is none of that name.
func table(b api.Base, name string) *api.Table {
	for i, x := range b.Tables {
		if x.Name == name {
			return &b.Tables[i]
		}
	}
	return nil
}

// failing: is a statement refused over a table without rows?
func failing(x api.Table, s api.Statement) bool {
	b, _, e := base.Run(api.Base{}, api.Statement{Kind: api.Create, Table: x.Name, Cols: x.Cols, Limit: -1})
	if e != api.OK {
		panic(e)
	}
	_, _, e = base.Run(b, s)
	return e != api.OK
}

// keysIn a table, rising.
func keysIn(x api.Table) [][]byte {
	var l [][]byte
	for _, r := range x.Rows {
		if len(r) > 0 {
			k, _ := codec.Encode(r[:1])
			l = append(l, k)
		}
	}
	sort.Slice(l, func(i, j int) bool { return bytes.Compare(l[i], l[j]) < 0 })
	return l
}

// needed: the words of P9.3, of a base that may be.
func needed(b api.Base, s api.Statement) ([]api.Need, api.Errno) {
	if e := parse.Check(s); e != api.OK {
		return nil, e
	}
	switch s.Kind {
	case api.Begin, api.Commit, api.Rollback:
		return nil, api.ErrKind
	case api.Create, api.Drop:
		return []api.Need{{Mode: api.X}}, api.OK
	}
	l := []api.Need{{Mode: api.IS}}
	x := table(b, s.Table)
	if x == nil || failing(*x, s) {
		return l, api.OK
	}
	put := func(thing string, select_, other int) {
		if s.Kind == api.Select {
			other = select_
		}
		l = append(l, api.Need{Thing: thing, Mode: other})
	}
	low, high, _ := expr.Bounds(x.Cols, s.Where)
	if s.Kind == api.Insert {
		low, _ = codec.Encode(s.Row[:1])
		high = low
	} else if string(low)+string(high) == "" || s.Kind == api.Update && s.Set == x.Cols[0].Name {
		put("t"+x.Name, api.S, api.X)
		return l, api.OK
	}
	put("t"+x.Name, api.IS, api.IX)
	if s.Kind == api.Insert {
		put("k"+x.Name+":"+string(low), 0, api.X)
	}
	next := "e" + x.Name
	for _, k := range keysIn(*x) {
		if len(high) > 0 && bytes.Compare(k, high) > 0 {
			next = "k" + x.Name + ":" + string(k)
			break
		}
		if bytes.Compare(k, low) >= 0 && s.Kind != api.Insert {
			put("k"+x.Name+":"+string(k), api.S, api.X)
		}
	}
	put(next, api.S, api.X)
	return l, api.OK
}

// die: numbers that look drawn, the same each time.
type die uint64

func (d *die) n(most int) int {
	*d = *d*6364136223846793005 + 1442695040888963407
	return int(uint64(*d>>33) % uint64(most))
}

// one of some.
func (d *die) one(l ...string) string { return l[d.n(len(l))] }

// key of the table t, or of the table u.
func (d *die) key(table string) string {
	if table == "u" {
		return d.one("''", "'a'", "'ab'", "'b'", "'c'", "'d'", "'''a'", "'zzzzzzzzzzzzzzzzzzzz'")
	}
	return strconv.Itoa(d.n(24))
}

// expression of a depth; its kind may be any.
func (d *die) expression(depth int) string {
	if depth == 0 {
		return d.one("id", "n", "s", "b", "id", "n", "1", "7", "- 2", "'a'", "NULL", "TRUE", "9223372036854775807")
	}
	switch d.n(8) {
	case 0:
		return "NOT (" + d.expression(depth-1) + ")"
	case 1:
		return "(" + d.expression(depth-1) + ") IS NULL"
	}
	return "(" + d.expression(depth-1) + ")" + d.one(" AND ", " OR ", " = ", " < ", " > ", " + ", " * ") + "(" + d.expression(depth-1) + ")"
}

// where of a table, or none.
func (d *die) where(table string) string {
	first := "id"
	if table == "u" {
		first = "s"
	}
	compared := func() string {
		if d.n(2) == 0 {
			return d.key(table) + d.one(" < ", " > ", " <= ", " >= ") + first
		}
		return d.one("", "", "", "NOT ") + first + d.one(" = ", " = ", " < ", " > ", " <= ", " >= ", " <> ") + d.key(table)
	}
	switch d.n(8) {
	case 0:
		return ""
	case 1, 2:
		return " WHERE " + compared()
	case 3, 4:
		return " WHERE " + compared() + " AND " + compared()
	case 5:
		return " WHERE " + compared() + d.one(" AND ", " OR ") + "(" + d.expression(1+d.n(2)) + ")"
	case 6:
		return " WHERE " + d.one("n = 1", "n < 2 AND id > 7", "n IS NULL", "s = 'a' AND n > id")
	}
	return " WHERE " + d.expression(d.n(3))
}

// statement over two tables, or one that there is not.
func (d *die) statement() api.Statement {
	name := d.one("t", "t", "t", "u", "u")
	if d.n(40) == 0 {
		name = "z"
	}
	switch d.n(10) {
	case 0, 1, 2:
		row := d.key(name) + ", " + d.one("1", "2", "3", "NULL")
		if name == "t" && d.n(30) > 0 {
			row += ", " + d.one("'a'", "'b'", "NULL") + ", " + d.one("TRUE", "FALSE", "NULL")
		}
		return read("INSERT INTO " + name + " VALUES (" + row + ")")
	case 3, 4, 5:
		shown := d.one("*", "*", "id", "COUNT (*)", "s, n")
		return read("SELECT " + shown + " FROM " + name + d.where(name) + d.one("", "", " ORDER BY n", " ORDER BY s DESC") + d.one("", "", " LIMIT 2"))
	case 6, 7:
		set := d.one("n = n + 1", "n = 2", "n = NULL", "id = id + 1", "id = 0 - id", "s = 'c'", "b = NOT b", "n = "+d.expression(1), "zz = 1")
		return read("UPDATE " + name + " SET " + set + d.where(name))
	case 8:
		return read("DELETE FROM " + name + d.where(name))
	}
	if d.n(4) > 0 {
		return read(d.one("DELETE FROM t WHERE id = ", "SELECT * FROM t WHERE id > ") + d.key("t"))
	}
	return read(d.one("BEGIN", "ROLLBACK", "CREATE TABLE v (id INT)", "DROP TABLE v", "CREATE TABLE t (id INT)"))
}

// two tables without rows.
func two(t *testing.T) api.Base {
	t.Helper()
	return after(t, api.Base{}, "CREATE TABLE t (id INT, n INT, s TEXT, b BOOL)", "CREATE TABLE u (s TEXT, n INT)")
}

// Drawn statements, one behind the other.
func TestDrawn(t *testing.T) {
	long := 0
	for seed := range 40 {
		d := die(seed)
		b := two(t)
		for range 200 {
			s := d.statement()
			was := fmt.Sprint(b, s)
			l, e := need.Needs(b, s)
			m, f := needed(b, s)
			if !slices.Equal(l, m) || e != f {
				t.Fatalf("%v of %v: %s, %d\nwant %s, %d", s, b, line(l), e, line(m), f)
			}
			if is := fmt.Sprint(b, s); is != was {
				t.Fatalf("%s\nwas %s", is, was)
			}
			if len(l) > 4 {
				long++
			}
			if x, _, e := base.Run(b, s); e == api.OK {
				b = x
			}
		}
	}
	if long < 500 { // were they drawn so that spans with keys are there?
		t.Error(long)
	}
}

// together: do all of what two need go together?
func together(l, m []api.Need) bool {
	for _, x := range l {
		for _, y := range m {
			if fits, e := lock.Fits(x.Mode, y.Mode); x.Thing == y.Thing && (!fits || e != api.OK) {
				return false
			}
		}
	}
	return true
}

// said: what a statement is told, and the rows of all tables behind it.
func said(b api.Base, s api.Statement) (x api.Base, told, rows string, e api.Errno) {
	x, r, e := base.Run(b, s)
	if e != api.OK {
		x = b
	}
	for _, one := range x.Tables {
		l, _ := base.Rows(x, one.Name)
		rows += fmt.Sprintln(one.Name, one.Cols, l)
	}
	return x, fmt.Sprint(r, e), rows, e
}

// What comes of it: of two statements whose needs go together, each as it is done, either might have been done first.
func TestEitherFirst(t *testing.T) {
	went, changed := 0, 0
	for seed := range 40 {
		d := die(1000 + seed)
		b := two(t)
		for range 100 {
			p, q := d.statement(), d.statement()
			l, e := need.Needs(b, p)
			behindP, toldP, _, eP := said(b, p)
			m, f := need.Needs(behindP, q)
			behindQ, toldQ2, _, eQ2 := said(b, q)
			_, toldQ, rows, eQ := said(behindP, q)
			_, toldP2, rows2, eP2 := said(behindQ, p)
			full := slices.Contains([]api.Errno{eP, eQ, eP2, eQ2}, api.ErrFull) // slots are no things
			if e == api.OK && f == api.OK && !full && together(l, m) {
				went++
				if eP == api.OK && eQ == api.OK && p.Kind != api.Select && q.Kind != api.Select {
					changed++
				}
				if toldP != toldP2 || toldQ != toldQ2 || rows != rows2 {
					t.Fatalf("%v: %v, then %v:\n%s, %s\n%s\nelse %s, %s\n%s", b, p, q, toldP, toldQ, rows, toldP2, toldQ2, rows2)
				}
			}
			b = behindP
			if d.n(30) == 0 { // slots are free again
				b = two(t)
			}
		}
	}
	if went < 500 || changed < 100 { // were they drawn so that many go together?
		t.Error(went, changed)
	}
}

// What comes of it: whoever has read a span of keys is in the way of whoever puts one into it, and the other way round.
func TestInTheWay(t *testing.T) {
	b := two(t)
	for _, id := range []string{"4", "12", "8", "6", "14", "10"} {
		b = after(t, b, "INSERT INTO t VALUES ("+id+", 1, 'a', TRUE)")
	}
	for low := range 18 {
		for high := low; high < 18; high++ {
			for _, s := range []string{"SELECT * FROM t", "UPDATE t SET n = n + 1", "DELETE FROM t"} {
				reads := read(s + fmt.Sprintf(" WHERE id >= %d AND id <= %d", low, high))
				readsFirst, _ := need.Needs(b, reads)
				behindReads, _, _, _ := said(b, reads)
				for id := low; id <= high; id++ {
					puts := read(fmt.Sprintf("INSERT INTO t VALUES (%d, 1, 'a', TRUE)", id))
					putsSecond, _ := need.Needs(behindReads, puts)
					putsFirst, _ := need.Needs(b, puts)
					behindPuts, _, _, _ := said(b, puts)
					readsSecond, _ := need.Needs(behindPuts, reads)
					if together(readsFirst, putsSecond) || together(putsFirst, readsSecond) {
						t.Errorf("%s from %d to %d, and %d: they go together", s, low, high, id)
					}
				}
			}
		}
	}
}
