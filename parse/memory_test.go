package parse_test

import (
	"fmt"
	"slices"
	"strings"
	"testing"
	"unsafe"

	"padlock/api"
	"padlock/parse"
)

// span of memory.
type span struct{ from, to uintptr }

// room of a list, its spare room, too.
func room[T any](l []T) span {
	var one T
	from := uintptr(unsafe.Pointer(unsafe.SliceData(l)))
	return span{from, from + uintptr(cap(l))*unsafe.Sizeof(one)}
}

// roomOf a text's bytes.
func roomOf(s string) span { return room(unsafe.Slice(unsafe.StringData(s), len(s))) }

// tokenRooms: of a list of tokens, of their texts, too.
func tokenRooms(l []api.Token) []span {
	out := []span{room(l)}
	for _, x := range l {
		out = append(out, roomOf(x.Text))
	}
	return out
}

// opRooms: of a list of ops, of their texts, too.
func opRooms(l []api.Op) []span {
	out := []span{room(l)}
	for _, o := range l {
		out = append(out, roomOf(o.Name), roomOf(o.Value.Text))
	}
	return out
}

// rooms of a statement's lists and texts.
func rooms(s api.Statement) []span {
	out := []span{room(s.Cols), room(s.Row), room(s.Names), roomOf(s.Table), roomOf(s.Order), roomOf(s.Set)}
	for _, c := range s.Cols {
		out = append(out, roomOf(c.Name))
	}
	for _, v := range s.Row {
		out = append(out, roomOf(v.Text))
	}
	for _, name := range s.Names {
		out = append(out, roomOf(name))
	}
	return slices.Concat(out, opRooms(s.Where), opRooms(s.To))
}

// wantApart: no two share memory.
func wantApart(t *testing.T, name string, l ...[]span) {
	t.Helper()
	all := slices.Concat(l...)
	all = slices.DeleteFunc(all, func(s span) bool { return s.from == s.to })
	slices.SortFunc(all, func(a, b span) int { return int(a.from) - int(b.from) })
	for i := range len(all) - 1 {
		if all[i].to > all[i+1].from {
			t.Errorf("%s: memory is shared", name)
			return
		}
	}
}

// spared: a list in memory of its own, with room behind it.
func spared[T any](l []T, own func(T) T) []T {
	var out []T
	for _, x := range l {
		out = append(out, own(x))
	}
	out = slices.Grow(out, 3)
	return append(out, make([]T, 3)...)[:len(l)]
}

// ownOp: an op with texts of its own.
func ownOp(o api.Op) api.Op {
	o.Name, o.Value.Text = strings.Clone(o.Name), strings.Clone(o.Value.Text)
	return o
}

// ownValue: a value with a text of its own.
func ownValue(v api.Value) api.Value { return ownOp(literal(v)).Value }

// ownToken: a token with a text of its own.
func ownToken(x api.Token) api.Token {
	x.Text = strings.Clone(x.Text)
	return x
}

// ownStatement: a statement in memory of its own, with room behind each list.
func ownStatement(s api.Statement) api.Statement {
	s.Table, s.Order, s.Set = strings.Clone(s.Table), strings.Clone(s.Order), strings.Clone(s.Set)
	s.Cols = spared(s.Cols, func(c api.Col) api.Col { return col(strings.Clone(c.Name), c.Kind) })
	s.Row = spared(s.Row, ownValue)
	s.Names = spared(s.Names, strings.Clone)
	s.Where, s.To = spared(s.Where, ownOp), spared(s.To, ownOp)
	return s
}

// all of a statement, spare room too.
func all(s api.Statement) string {
	return fmt.Sprint(s, s.Cols[:cap(s.Cols)], s.Row[:cap(s.Row)], s.Names[:cap(s.Names)], s.Where[:cap(s.Where)], s.To[:cap(s.To)])
}

// What is handed in stays as it is, spare room too, and nothing that comes out shares memory with that, or with something else.
func TestMemory(t *testing.T) {
	for seed := range 2000 {
		d := die(seed)
		s := ownStatement(d.made(12))
		was := all(s)
		shown, _ := parse.Show(s)
		twice, e := parse.Show(s)
		parse.Check(s)
		parse.Expression(s.Where)
		parse.Expression(s.To)
		if is := all(s); is != was {
			t.Fatalf("%s\nwas %s", is, was)
		}
		wantApart(t, was, rooms(s), tokenRooms(shown), tokenRooms(twice))
		if e != api.OK {
			continue
		}
		in := spared(shown, ownToken)
		wasIn := fmt.Sprint(in[:cap(in)])
		a, _, _ := parse.Parse(in)
		b, _, _ := parse.Parse(in)
		if is := fmt.Sprint(in[:cap(in)]); is != wasIn {
			t.Fatalf("%s\nwas %s", is, wasIn)
		}
		wantApart(t, wasIn, tokenRooms(in), rooms(a), rooms(b))
	}
	for _, s := range []string{"UPDATE t SET a = a > b WHERE a <= b", "DELETE FROM t WHERE (a > b) > (c > d)", "SELECT a, a FROM a WHERE a = a ORDER BY a"} { // texts of the same letters, and sides that are turned
		in := tokens(t, s)
		a, _, _ := parse.Parse(in)
		b, _, _ := parse.Parse(in)
		wantApart(t, s, tokenRooms(in), rooms(a), rooms(b))
	}
}
