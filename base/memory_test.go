package base_test

import (
	"fmt"
	"runtime"
	"slices"
	"strings"
	"testing"
	"unsafe"

	"padlock/api"
	"padlock/base"
)

// span of memory, of a list and its spare room, or of a text.
type span struct{ from, to uintptr }

// room of a list.
func room[T any](l []T) span {
	var one T
	from := uintptr(unsafe.Pointer(unsafe.SliceData(l)))
	return span{from, from + uintptr(cap(l))*unsafe.Sizeof(one)}
}

// text: its room.
func text(s string) span { return room(unsafe.Slice(unsafe.StringData(s), len(s))) }

// rooms of the lists and texts of rows, of those in spare room, too.
func rooms(rows [][]api.Value) []span {
	l := []span{room(rows)}
	for _, r := range rows[:cap(rows)] {
		l = append(l, room(r))
		for _, v := range r[:cap(r)] {
			l = append(l, text(v.Text))
		}
	}
	return l
}

// roomsOf tables.
func roomsOf(tables []api.Table) []span {
	l := []span{room(tables)}
	for _, x := range tables[:cap(tables)] {
		l = append(l, text(x.Name), room(x.Cols), room(x.Index.Pages))
		for _, c := range x.Cols[:cap(x.Cols)] {
			l = append(l, text(c.Name))
		}
		l = append(l, rooms(x.Rows)...)
		for _, p := range x.Index.Pages[:cap(x.Index.Pages)] {
			l = append(l, room(p.Keys), room(p.Kids), room(p.High))
			for _, k := range p.Keys[:cap(p.Keys)] {
				l = append(l, room(k))
			}
		}
	}
	return l
}

// roomsIn a statement.
func roomsIn(s api.Statement) []span {
	l := append(rooms([][]api.Value{s.Row}), text(s.Table), text(s.Order), text(s.Set), room(s.Cols), room(s.Names), room(s.Where), room(s.To))
	for _, c := range s.Cols {
		l = append(l, text(c.Name))
	}
	for _, name := range s.Names {
		l = append(l, text(name))
	}
	for _, o := range slices.Concat(s.Where, s.To) {
		l = append(l, text(o.Name), text(o.Value.Text))
	}
	return l
}

// wantApart: no two share memory.
func wantApart(t *testing.T, name string, l ...[]span) {
	t.Helper()
	all := slices.DeleteFunc(slices.Concat(l...), func(s span) bool { return s.from == s.to })
	slices.SortFunc(all, func(a, b span) int { return int(a.from) - int(b.from) })
	for i := range len(all) - 1 {
		if all[i].to > all[i+1].from {
			t.Errorf("%s: memory is shared", name)
			return
		}
	}
}

// spare: the same list, each of its things made anew, with room behind it.
func spare[T any](l []T, anew func(T) T, behind T) []T {
	room := make([]T, 0, len(l)+2)
	for _, x := range l {
		room = append(room, anew(x))
	}
	return append(room, behind, behind)[:len(l)]
}

// spared: the same base, each list with room behind it, each text anew.
func spared(b api.Base) api.Base {
	col := func(c api.Col) api.Col { return api.Col{Name: strings.Clone(c.Name), Kind: c.Kind} }
	val := func(v api.Value) api.Value {
		v.Text = strings.Clone(v.Text)
		return v
	}
	same := func(b byte) byte { return b }
	key := func(k []byte) []byte { return spare(k, same, 7) }
	page := func(p api.Page) api.Page {
		p.Keys, p.Kids, p.High = spare(p.Keys, key, nil), spare(p.Kids, func(n int) int { return n }, 7), key(p.High)
		return p
	}
	values := func(r []api.Value) []api.Value { return spare(r, val, num(7)) }
	return api.Base{Tables: spare(b.Tables, func(x api.Table) api.Table {
		x.Name, x.Cols, x.Rows = strings.Clone(x.Name), spare(x.Cols, col, api.Col{Kind: 7}), spare(x.Rows, values, nil)
		x.Index.Pages = spare(x.Index.Pages, page, api.Page{Next: 7})
		return x
	}, api.Table{})}
}

// whole: all of the tables, spare room, too.
func whole(tables []api.Table) string {
	s := fmt.Sprint(len(tables))
	for _, x := range tables[:cap(tables)] {
		s += fmt.Sprint(x, x.Cols[:cap(x.Cols)], x.Rows[:cap(x.Rows)], x.Index.Pages[:cap(x.Index.Pages)])
		for _, r := range x.Rows[:cap(x.Rows)] {
			s += fmt.Sprint(r[:cap(r)])
		}
		for _, p := range x.Index.Pages[:cap(x.Index.Pages)] {
			s += fmt.Sprint(p.Keys[:cap(p.Keys)], p.Kids[:cap(p.Kids)], p.High[:cap(p.High)])
			for _, k := range p.Keys[:cap(p.Keys)] {
				s += fmt.Sprint(k[:cap(k)])
			}
		}
	}
	return s
}

// many rows, so that pages stand above each other.
func many(t *testing.T) api.Base {
	t.Helper()
	b := usual(t)
	for _, id := range []string{"11", "12", "13", "14", "15", "16", "17", "18", "19", "20", "21"} {
		b = after(t, b, "INSERT INTO t VALUES ("+id+", 1, 'xyz', TRUE)")
	}
	return after(t, b, "DELETE FROM t WHERE id > 12 AND id < 16")
}

// What is handed in stays as it is, spare room too, and no two lists or texts that come out share memory, nor with what was
// handed in.
func TestMemory(t *testing.T) {
	b := spared(many(t))
	was := whole(b.Tables)
	in := roomsOf(b.Tables)
	wantApart(t, "in", in)
	for _, source := range []string{
		"CREATE TABLE v (id INT, s TEXT)", "CREATE TABLE t (id INT)", "DROP TABLE t", "DROP TABLE u", "DROP TABLE v",
		"INSERT INTO t VALUES (31, 1, 'in', TRUE)", "INSERT INTO u VALUES ('in')", "INSERT INTO u VALUES ('x')", "INSERT INTO t VALUES ('x', NULL, NULL, NULL)",
		"SELECT * FROM t", "SELECT s, id, s FROM t WHERE id > 2 ORDER BY s DESC", "SELECT s FROM u LIMIT 1", "SELECT COUNT (*) FROM t", "SELECT zz FROM t",
		"UPDATE t SET s = 'to'", "UPDATE t SET s = s WHERE id = 3", "UPDATE u SET s = 'to' WHERE s = ''", "UPDATE t SET id = id + 1", "UPDATE t SET id = 5", "UPDATE t SET n = 1 WHERE FALSE",
		"DELETE FROM t WHERE id = 3", "DELETE FROM t", "DELETE FROM u WHERE s > ''", "DELETE FROM t WHERE FALSE", "DELETE FROM t WHERE zz",
		"BEGIN",
	} {
		s := read(source)
		s.Row = spare(s.Row, func(v api.Value) api.Value { return v }, num(7))
		s.Cols = spare(s.Cols, func(c api.Col) api.Col { return c }, api.Col{Kind: 7})
		asked := fmt.Sprint(s, s.Row[:cap(s.Row)], s.Cols[:cap(s.Cols)])
		x, r, _ := base.Run(b, s)
		y, q, _ := base.Run(b, s)
		wantApart(t, source, in, roomsIn(s), roomsOf(x.Tables), rooms(r.Rows), roomsOf(y.Tables), rooms(q.Rows))
		runtime.KeepAlive([]any{x, r, y, q}) // else their memory may be used again
		if is := whole(b.Tables); is != was {
			t.Errorf("%s: %s\nwas %s", source, is, was)
		}
		if is := fmt.Sprint(s, s.Row[:cap(s.Row)], s.Cols[:cap(s.Cols)]); is != asked {
			t.Errorf("%s: %s\nwas %s", source, is, asked)
		}
	}
	base.Check(b)
	out := [][]span{in}
	var kept []any
	for _, name := range []string{"t", "u", "t", "v"} {
		l, _ := base.Rows(b, name)
		out, kept = append(out, rooms(l)), append(kept, l)
	}
	wantApart(t, "Rows", out...)
	runtime.KeepAlive(kept)
	if is := whole(b.Tables); is != was {
		t.Errorf("%s\nwas %s", is, was)
	}
}

// Of Undo and Changed, likewise.
func TestUndoMemory(t *testing.T) {
	b := spared(many(t))
	now := spared(after(t, b, "UPDATE t SET s = 'new' WHERE id < 17", "INSERT INTO t VALUES (31, 1, 'in', TRUE)", "DELETE FROM t WHERE id = 11"))
	was := whole(slices.Concat(b.Tables, now.Tables))
	in := [][]span{roomsOf(b.Tables), roomsOf(now.Tables)}
	wantApart(t, "in", in...)
	for _, slots := range [][]int{nil, {0}, {0, 17}, {17, 2, 5, 5, 6}, {18}, {-1}} {
		slots = spare(slots, func(n int) int { return n }, 7)
		asked := fmt.Sprint(slots[:cap(slots)])
		out := append(slices.Clone(in), []span{room(slots)})
		var kept []any
		for range 2 {
			x, _ := base.Undo(now.Tables[0], b.Tables[0], slots)
			l, _ := base.Changed(b.Tables[0], now.Tables[0])
			out, kept = append(out, roomsOf([]api.Table{x})[1:], []span{room(l)}), append(kept, x, l)
		}
		wantApart(t, asked, out...)
		runtime.KeepAlive(kept)
		if is := whole(slices.Concat(b.Tables, now.Tables)); is != was || fmt.Sprint(slots[:cap(slots)]) != asked {
			t.Errorf("%s: %s\nwas %s", asked, is, was)
		}
	}
}
