package base_test

import (
	"math"
	"slices"
	"testing"

	"padlock/api"
	"padlock/base"
	"padlock/fresh"
	"padlock/tree"
)

// wantUndone: the table now, but for some places, where it was another one.
func wantUndone(t *testing.T, now, was api.Table, slots []int, want string) {
	t.Helper()
	x, e := base.Undo(now, was, slots)
	if e != api.OK || lines(x.Rows) != want || x.Name != now.Name || !same(x.Cols, now.Cols) || base.Check(api.Base{Tables: []api.Table{x}}) != api.OK {
		t.Errorf("%v: %v, %d\nwant %s", slots, x, e, want)
	}
	index := tree.New()
	for i, r := range x.Rows {
		if len(r) > 0 {
			index = putOne(t, index, r[0].Int, i)
		}
	}
	if !same(x.Index, index) {
		t.Errorf("%v: %v, want %v", slots, x.Index, index)
	}
}

// P8.8
func TestUndo(t *testing.T) {
	b := usual(t)
	was := b.Tables[0]
	now := after(t, b, "UPDATE t SET n = 7 WHERE id > 3", "DELETE FROM t WHERE id = 1", "INSERT INTO t VALUES (9, 9, 'n', TRUE)", "UPDATE t SET id = 0 WHERE id = 5",
		"INSERT INTO t VALUES (10, 9, 'n', TRUE)").Tables[0]
	const rows = "3 1 'b' TRUE; -; 1 2 'a' NULL; 5 NULL 'b' FALSE; 2 1 NULL TRUE; 4 2 'ab' FALSE"
	if s := lines(was.Rows); s != rows {
		t.Fatal(s)
	}
	for _, c := range []struct {
		slots []int
		want  string
	}{
		{nil, "3 1 'b' TRUE; -; -; 0 7 'b' FALSE; 2 1 NULL TRUE; 4 7 'ab' FALSE; 9 9 'n' TRUE; 10 9 'n' TRUE"},
		{[]int{0, 1, 4}, "3 1 'b' TRUE; -; -; 0 7 'b' FALSE; 2 1 NULL TRUE; 4 7 'ab' FALSE; 9 9 'n' TRUE; 10 9 'n' TRUE"},
		{[]int{2}, "3 1 'b' TRUE; -; 1 2 'a' NULL; 0 7 'b' FALSE; 2 1 NULL TRUE; 4 7 'ab' FALSE; 9 9 'n' TRUE; 10 9 'n' TRUE"},
		{[]int{3}, "3 1 'b' TRUE; -; -; 5 NULL 'b' FALSE; 2 1 NULL TRUE; 4 7 'ab' FALSE; 9 9 'n' TRUE; 10 9 'n' TRUE"},
		{[]int{6}, "3 1 'b' TRUE; -; -; 0 7 'b' FALSE; 2 1 NULL TRUE; 4 7 'ab' FALSE; -; 10 9 'n' TRUE"},
		{[]int{7}, "3 1 'b' TRUE; -; -; 0 7 'b' FALSE; 2 1 NULL TRUE; 4 7 'ab' FALSE; 9 9 'n' TRUE; -"},
		{[]int{2, 3, 5, 6, 7}, rows + "; -; -"},
		{[]int{7, 3, 6, 2, 5, 3, 7}, rows + "; -; -"}, // in whatever order, and as often
		{[]int{0, 1, 2, 3, 4, 5, 6, 7}, rows + "; -; -"},
	} {
		wantUndone(t, now, was, c.slots, c.want)
	}
	wantUndone(t, was, now, []int{3, 2}, "3 1 'b' TRUE; -; -; 0 7 'b' FALSE; 2 1 NULL TRUE; 4 2 'ab' FALSE") // to a later one
	wantUndone(t, was, was, []int{0, 5}, rows)
	wantUndone(t, wide(t, 3197, 1, 2, 3, 4, 11).Tables[0], wide(t, 1, 5).Tables[0], []int{0}, "5; 2; 3; 4; 11") // the index is a new one
}

// P8.8: keys come by their places, which another order would put into other pages.
func TestUndoOrder(t *testing.T) {
	b := after(t, api.Base{}, "CREATE TABLE t (id INT)")
	for _, id := range []string{"7", "1", "9", "3", "8", "2", "6", "4", "5", "0"} {
		b = after(t, b, "INSERT INTO t VALUES ("+id+")")
	}
	now := after(t, b, "UPDATE t SET id = id + 100 WHERE id > 4", "DELETE FROM t WHERE id = 3").Tables[0]
	wantUndone(t, now, b.Tables[0], nil, "107; 1; 109; -; 108; 2; 106; 4; 105; 0")
	wantUndone(t, now, b.Tables[0], []int{8, 3, 0}, "7; 1; 109; 3; 108; 2; 106; 4; 5; 0")
	back := []int{9, 8, 7, 6, 5, 4, 3, 2, 1, 0}
	wantUndone(t, now, b.Tables[0], back, "7; 1; 9; 3; 8; 2; 6; 4; 5; 0")
	x, _ := base.Undo(now, b.Tables[0], back)
	other := tree.New()
	for _, i := range back {
		other = putOne(t, other, b.Tables[0].Rows[i][0].Int, i)
	}
	if !same(x.Index, b.Tables[0].Index) || same(x.Index, other) {
		t.Errorf("%v, was %v", x.Index, b.Tables[0].Index)
	}
}

// wantNotUndone: it is refused.
func wantNotUndone(t *testing.T, now, was api.Table, slots []int, want api.Errno) {
	t.Helper()
	if x, e := base.Undo(now, was, slots); e != want || !same(x, api.Table{}) {
		t.Errorf("%v: %v, %d, want %d", slots, x, e, want)
	}
}

// pairs of tables that are not one: both the words of P8.8 and of P8.9.
func pairs(t *testing.T) [][2]api.Table {
	t.Helper()
	var l [][2]api.Table
	for _, spoil := range spoilt() {
		x := usual(t).Tables[0]
		spoil(&x)
		l = append(l, [2]api.Table{x, usual(t).Tables[0]}, [2]api.Table{x, x})
	}
	for _, change := range []func(x *api.Table){
		func(x *api.Table) { x.Name = "T" },
		func(x *api.Table) { x.Name = "u" },
		func(x *api.Table) { x.Cols[0].Name = "ID" },
		func(x *api.Table) { x.Cols[3].Name = "z" },
		func(x *api.Table) { x.Cols[1].Name, x.Cols[2].Name = x.Cols[2].Name, x.Cols[1].Name },
		func(x *api.Table) { // of no rows that the columns would not fit
			*x = api.Table{Name: "t", Cols: x.Cols[:1], Index: tree.New()}
		},
		func(x *api.Table) {
			x.Cols[1].Kind = api.Text
			*x = api.Table{Name: "t", Cols: x.Cols, Index: tree.New()}
		},
		func(x *api.Table) {
			x.Cols[1], x.Cols[2] = x.Cols[2], x.Cols[1]
			*x = api.Table{Name: "t", Cols: x.Cols, Index: tree.New()}
		},
	} {
		x := usual(t).Tables[0]
		change(&x)
		if base.Check(api.Base{Tables: []api.Table{x}}) != api.OK {
			t.Fatalf("%v", x)
		}
		l = append(l, [2]api.Table{x, usual(t).Tables[0]}, [2]api.Table{x, {Name: "t", Cols: usual(t).Tables[0].Cols, Index: tree.New()}})
	}
	return append(l, [2]api.Table{usual(t).Tables[0], usual(t).Tables[1]}, [2]api.Table{}, [2]api.Table{{}, usual(t).Tables[0]})
}

// P8.8: what is refused, and in which order.
func TestUndoRefused(t *testing.T) {
	for _, c := range pairs(t) {
		for _, slots := range [][]int{nil, {0}, {-1}, {99}} {
			wantNotUndone(t, c[0], c[1], slots, api.ErrState)
			wantNotUndone(t, c[1], c[0], slots, api.ErrState)
		}
	}
	b := usual(t)
	was := b.Tables[0]
	now := after(t, b, "INSERT INTO t VALUES (9, 9, 'n', TRUE)").Tables[0]
	for _, slots := range [][]int{{-1}, {7}, {math.MaxInt}, {math.MinInt}, {0, 1, 7}, {6, -1, 0}} {
		wantNotUndone(t, now, was, slots, api.ErrRange)
	}
	wantNotUndone(t, was, now, []int{6}, api.ErrRange) // it is there in the other one only
	wantNotUndone(t, was, now, []int{0, 6}, api.ErrRange)
	wantUndone(t, now, was, []int{6}, lines(was.Rows)+"; -")
	swapped := after(t, b, "UPDATE t SET id = 4 - id WHERE id = 3 OR id = 1").Tables[0]
	wantNotUndone(t, swapped, was, []int{0}, api.ErrTwice)
	wantNotUndone(t, swapped, was, []int{2, 5}, api.ErrTwice)
	wantNotUndone(t, swapped, was, []int{0, 6}, api.ErrRange) // ahead of what the tree refuses
	wantNotUndone(t, swapped, was, []int{0, -1}, api.ErrRange)
	wantUndone(t, swapped, was, []int{0, 2}, lines(was.Rows))
	other := after(t, b, "DELETE FROM t WHERE id = 3", "INSERT INTO t VALUES (3, NULL, NULL, NULL)").Tables[0] // the key is at another place now
	wantNotUndone(t, other, was, []int{0}, api.ErrTwice)
	wantUndone(t, other, was, []int{0, 6}, lines(was.Rows)+"; -")
}

// wantChanged: at these places.
func wantChanged(t *testing.T, was, now api.Table, e api.Errno, want ...int) {
	t.Helper()
	if l, f := base.Changed(was, now); f != e || !slices.Equal(l, want) {
		t.Errorf("%s\n%s: %v, %d, want %v, %d", lines(was.Rows), lines(now.Rows), l, f, want, e)
	}
}

// P8.9
func TestChanged(t *testing.T) {
	b := usual(t)
	was := b.Tables[0]
	for _, c := range []struct {
		s    []string
		want []int
	}{
		{nil, nil},
		{[]string{"UPDATE t SET n = n"}, nil},
		{[]string{"UPDATE t SET id = id + 1", "UPDATE t SET id = id - 1"}, nil}, // the pages are others, the rows are not
		{[]string{"UPDATE t SET n = 1"}, []int{2, 3, 5}},
		{[]string{"UPDATE t SET n = NULL WHERE id = 4"}, []int{5}},
		{[]string{"UPDATE t SET s = 'B' WHERE id = 3"}, []int{0}},
		{[]string{"UPDATE t SET b = NOT b"}, []int{0, 3, 4, 5}},
		{[]string{"UPDATE t SET id = id + 1"}, []int{0, 2, 3, 4, 5}},
		{[]string{"DELETE FROM t WHERE id = 4 OR id = 1"}, []int{2, 5}},
		{[]string{"DELETE FROM t"}, []int{0, 2, 3, 4, 5}},
		{[]string{"INSERT INTO t VALUES (9, 1, 'b', TRUE)"}, []int{6}},
		{[]string{"INSERT INTO t VALUES (9, 1, 'b', TRUE)", "INSERT INTO t VALUES (8, 1, 'b', TRUE)", "DELETE FROM t WHERE id = 9", "DELETE FROM t WHERE id = 1"}, []int{2, 6, 7}}, // an empty one was not there either
	} {
		wantChanged(t, was, after(t, b, c.s...).Tables[0], api.OK, c.want...)
	}
	wantChanged(t, after(t, b, "DELETE FROM t WHERE id = 3").Tables[0], was, api.OK, 0)
	nilRow, noRow := usual(t).Tables[0], usual(t).Tables[0]
	nilRow.Rows[1], noRow.Rows[1] = nil, []api.Value{}
	wantChanged(t, nilRow, noRow, api.OK)
	wantChanged(t, noRow, nilRow, api.OK)
	before := api.Table{Name: "t", Cols: was.Cols, Index: tree.New()}
	wantChanged(t, before, was, api.OK, 0, 1, 2, 3, 4, 5)
	wantChanged(t, before, before, api.OK)
	wantChanged(t, was, before, api.ErrState) // fewer places
	wantChanged(t, after(t, b, "INSERT INTO t VALUES (9, 1, 'b', TRUE)").Tables[0], was, api.ErrState)
	shorter := after(t, b, "DELETE FROM t WHERE id = 4").Tables[0]
	less := fresh.Table(shorter)
	less.Rows = less.Rows[:5]
	wantChanged(t, less, shorter, api.OK, 5)
	wantChanged(t, shorter, less, api.ErrState)
	for _, c := range pairs(t) {
		wantChanged(t, c[0], c[1], api.ErrState)
		wantChanged(t, c[1], c[0], api.ErrState)
	}
}

// What comes of P8.8 and P8.9: what is changed is undone.
func TestChangedUndone(t *testing.T) {
	b := usual(t)
	for _, l := range [][]string{
		{"DELETE FROM t", "INSERT INTO t VALUES (3, 1, 'b', TRUE)"},
		{"UPDATE t SET id = 9 - id", "INSERT INTO t VALUES (1, 1, 'b', TRUE)", "UPDATE t SET id = id + 1"},
	} {
		x := after(t, b, l...)
		slots, e := base.Changed(b.Tables[0], x.Tables[0])
		if e != api.OK {
			t.Error(e)
		}
		wantUndone(t, x.Tables[0], b.Tables[0], slots, lines(b.Tables[0].Rows)+"; -")
	}
}
