package need_test

import (
	"fmt"
	"runtime"
	"slices"
	"testing"
	"unsafe"

	"padlock/api"
	"padlock/fresh"
	"padlock/need"
)

// room of a list, its spare room, too: from where to where it is.
func room[T any](l []T) [2]uintptr {
	var one T
	from := uintptr(unsafe.Pointer(unsafe.SliceData(l)))
	return [2]uintptr{from, from + uintptr(cap(l))*unsafe.Sizeof(one)}
}

// text: its room.
func text(s string) [2]uintptr { return room(unsafe.Slice(unsafe.StringData(s), len(s))) }

// What is handed in stays as it is, and what comes out is new memory.
func TestMemory(t *testing.T) {
	b := usual(t)
	was := fmt.Sprint(b)
	in := [][2]uintptr{room(b.Tables)}
	for _, x := range b.Tables {
		in = append(in, text(x.Name), room(x.Rows), room(x.Cols), room(x.Index.Pages))
		for _, p := range x.Index.Pages {
			in = append(in, room(p.Keys), room(p.High))
			for _, k := range p.Keys {
				in = append(in, room(k))
			}
		}
	}
	for _, source := range []string{
		"CREATE TABLE w (id INT)", "DROP TABLE t", "SELECT * FROM t", "SELECT s FROM t WHERE id > 20", "SELECT * FROM t WHERE id < 30 AND id > 10", "SELECT * FROM z",
		"UPDATE t SET n = 1 WHERE id = 20", "UPDATE t SET id = 1", "DELETE FROM t WHERE 20 <= id", "DELETE FROM u WHERE s = 'm'",
		"INSERT INTO t VALUES (7, 1, 'x', TRUE)", "INSERT INTO u VALUES ('m', 1)", "INSERT INTO u VALUES (7, 1)", "COMMIT",
	} {
		s := read(source)
		s.Row = append(s.Row, num(7), num(8))[:len(s.Row)]
		s.Where = append(s.Where, api.Op{Kind: 7}, api.Op{Kind: 8})[:len(s.Where)]
		asked := fmt.Sprint(s, s.Row[:cap(s.Row)], s.Where[:cap(s.Where)])
		all := append(slices.Clone(in), text(s.Table), room(s.Row), room(s.Where))
		for _, v := range s.Row {
			all = append(all, text(v.Text))
		}
		l, _ := need.Needs(b, s)
		again, _ := need.Needs(b, s)
		for _, out := range [][]api.Need{l, again} {
			all = append(all, room(out))
			for _, n := range out[:cap(out)] {
				all = append(all, text(n.Thing))
			}
		}
		all = slices.DeleteFunc(all, func(r [2]uintptr) bool { return r[0] == r[1] })
		slices.SortFunc(all, func(a, b [2]uintptr) int { return int(a[0]) - int(b[0]) })
		for i := range len(all) - 1 {
			if all[i][1] > all[i+1][0] {
				t.Errorf("%s: memory is shared", source)
			}
		}
		if is := fmt.Sprint(s, s.Row[:cap(s.Row)], s.Where[:cap(s.Where)]); is != asked {
			t.Errorf("%s: %s\nwas %s", source, is, asked)
		}
		runtime.KeepAlive([]any{l, again, s}) // else their memory may be used again
	}
	if is := fmt.Sprint(b); is != was || fmt.Sprint(fresh.Base(b)) != was {
		t.Errorf("%s\nwas %s", is, was)
	}
}
