package session_test

import (
	"fmt"
	"runtime"
	"slices"
	"strings"
	"testing"
	"unsafe"

	"padlock/api"
	"padlock/session"
)

// span of memory, of a list and its spare room, or of a text.
type span struct{ from, to uintptr }

// room of a list.
func room[T any](l []T) span {
	var one T
	from := uintptr(unsafe.Pointer(unsafe.SliceData(l)))
	return span{from, from + uintptr(cap(l))*unsafe.Sizeof(one)}
}

// text: its room.
func text(s string) span { return room(unsafe.Slice(unsafe.StringData(s), len(s))) }

// rooms of rows, and of what is in them, in spare room, too.
func rooms(rows [][]api.Value) []span {
	l := []span{room(rows)}
	for _, r := range rows[:cap(rows)] {
		l = append(l, room(r))
		for _, v := range r[:cap(r)] {
			l = append(l, text(v.Text))
		}
	}
	return l
}

// roomsOf an outcome.
func roomsOf(o api.Outcome) []span {
	l := []span{room(o.Replies), room(o.Commits), room(o.Base.Tables)}
	for _, told := range o.Replies[:cap(o.Replies)] {
		l = append(l, room(told))
		for _, r := range told[:cap(told)] {
			l = append(l, rooms(r.Result.Rows)...)
		}
	}
	for _, x := range o.Base.Tables[:cap(o.Base.Tables)] {
		l = append(l, text(x.Name), room(x.Cols), room(x.Index.Pages))
		l = append(l, rooms(x.Rows)...)
		for _, c := range x.Cols[:cap(x.Cols)] {
			l = append(l, text(c.Name))
		}
		for _, p := range x.Index.Pages[:cap(x.Index.Pages)] {
			l = append(l, room(p.Keys), room(p.Kids), room(p.High))
			for _, k := range p.Keys[:cap(p.Keys)] {
				l = append(l, room(k))
			}
		}
	}
	return l
}

// roomsIn what is handed in.
func roomsIn(scripts [][]string, p []int) []span {
	l := []span{room(scripts), room(p)}
	for _, s := range scripts {
		l = append(l, room(s))
		for _, x := range s {
			l = append(l, text(x))
		}
	}
	return l
}

// wantApart: no two share memory.
func wantApart(t *testing.T, l ...[]span) {
	t.Helper()
	all := slices.DeleteFunc(slices.Concat(l...), func(s span) bool { return s.from == s.to })
	slices.SortFunc(all, func(a, b span) int { return int(a.from) - int(b.from) })
	for i := range len(all) - 1 {
		if all[i].to > all[i+1].from {
			t.Fatal("memory is shared")
		}
	}
}

// spared: scripts and picks with room behind them.
func spared(scripts [][]string, p []int) ([][]string, []int) {
	l := make([][]string, 0, len(scripts)+2)
	for _, s := range scripts {
		x := make([]string, 0, len(s)+2)
		for _, one := range s {
			x = append(x, strings.Clone(one))
		}
		l = append(l, append(x, "DROP TABLE t", "COMMIT")[:len(s)])
	}
	l = append(l, []string{"COMMIT"}, []string{"BEGIN"})
	return l[:len(scripts)], append(slices.Clone(p), 7, 8)[:len(p)]
}

// whole: all that is handed in, spare room, too.
func whole(l [][]string, p []int) string {
	s := fmt.Sprintf("%d %v %q", len(l), p[:cap(p)], l[:cap(l)])
	for _, x := range l {
		s += fmt.Sprintf(" %q", x[:cap(x)])
	}
	return s
}

// What is handed in stays as it is, and what comes out is new memory: of statements that are done, and of those undone.
func TestMemory(t *testing.T) {
	for seed := range 60 {
		d := die(9000 + seed)
		scripts, picked := d.sessions()
		if seed == 0 { // what is told is undone, and told again
			scripts = [][]string{worn(), script("BEGIN; SELECT * FROM u; SELECT s, s FROM u; DROP TABLE u; CREATE TABLE u (s TEXT); INSERT INTO u VALUES ('ccc'); SELECT * FROM u; ROLLBACK; INSERT INTO u VALUES ('ccc'); SELECT * FROM u")}
			picked = picks(0, 200)
		}
		l, p := spared(scripts, picked)
		was := whole(l, p)
		o, e := session.Run(l, p)
		again, f := session.Run(l, p)
		if e != api.OK || f != api.OK || show(o) != show(again) {
			t.Fatalf("%q %v: %v, %d\nthen %v, %d", l, p, o, e, again, f)
		}
		wantApart(t, roomsIn(l, p), roomsOf(o), roomsOf(again))
		if is := whole(l, p); is != was {
			t.Errorf("%s\nwas %s", is, was)
		}
		runtime.KeepAlive([]any{l, p, o, again}) // else their memory may be used again
	}
}
