package base_test

import (
	"math"
	"slices"
	"strconv"
	"strings"
	"testing"

	"padlock/api"
	"padlock/base"
	"padlock/fresh"
	"padlock/tree"
)

// full: as many tables as may be, one of them with as many rows as may be.
func full(t *testing.T) api.Base {
	t.Helper()
	b := after(t, usual(t), "CREATE TABLE ninebyte (_ TEXT, a INT, b INT, c INT, d BOOL, e TEXT)", "CREATE TABLE T (id INT)")
	for i := range api.MaxSlots {
		b = after(t, b, "INSERT INTO T VALUES ("+strconv.Itoa(i)+")")
	}
	return b
}

// P8.1: bases that may be.
func TestMayBe(t *testing.T) {
	empty := usual(t)
	empty.Tables[0].Rows[1] = []api.Value{} // an empty list may be nil or not
	least := usual(t)
	least.Tables[0].Rows[0][1] = num(math.MinInt) // which no statement tells
	for i, b := range []api.Base{
		{}, {Tables: []api.Table{}}, usual(t), full(t), empty, least, wide(t, 3197, 1, 2, 3, 4, 11),
		after(t, full(t), "DELETE FROM T WHERE id < 20", "DELETE FROM t"),
		after(t, api.Base{}, "CREATE TABLE t (id INT)"),
		{Tables: []api.Table{{Name: "t", Cols: []api.Col{{Name: "t", Kind: api.Bool}}, Rows: make([][]api.Value, api.MaxSlots), Index: tree.New()}}},
	} {
		if e := base.Check(b); e != api.OK {
			t.Errorf("base %d: %d", i, e)
		}
	}
}

// wantWrong: all calls refuse a base that may not be, ahead of all else.
func wantWrong(t *testing.T, name string, b api.Base) {
	t.Helper()
	if e := base.Check(b); e != api.ErrState {
		t.Errorf("%s: %d", name, e)
	}
	for _, s := range []api.Statement{{}, {Kind: api.Begin}, {Kind: api.Begin, Limit: -1}, read("SELECT * FROM t"), read("CREATE TABLE t (x INT)"), read("DROP TABLE zz")} {
		if x, r, e := base.Run(b, s); e != api.ErrState || len(x.Tables)+len(r.Rows)+r.Count > 0 {
			t.Errorf("%s: %v: %s, %v, %d", name, s, brief(x), r, e)
		}
	}
	for _, table := range []string{"t", "zz"} {
		if l, e := base.Rows(b, table); len(l) > 0 || e != api.ErrState {
			t.Errorf("%s: %v, %d", name, l, e)
		}
	}
}

// spoilt: each way of spoiling a table t of the usual base.
func spoilt() map[string]func(x *api.Table) {
	return map[string]func(x *api.Table){
		"all empty":          func(x *api.Table) { *x = api.Table{} },
		"name: empty":        func(x *api.Table) { x.Name = "" },
		"name: kept":         func(x *api.Table) { x.Name = "TABLE" },
		"name: too long":     func(x *api.Table) { x.Name = "ninebytes" },
		"name: no word":      func(x *api.Table) { x.Name = "1t" },
		"columns: none":      func(x *api.Table) { x.Cols = nil },
		"columns: less":      func(x *api.Table) { x.Cols = x.Cols[:3] },
		"columns: more":      func(x *api.Table) { x.Cols = append(x.Cols, api.Col{Name: "z", Kind: api.Int}) },
		"columns: twice":     func(x *api.Table) { x.Cols[3].Name = "n" },
		"columns: a name":    func(x *api.Table) { x.Cols[3].Name = "AND" },
		"columns: a kind":    func(x *api.Table) { x.Cols[1].Kind = api.Bool },
		"columns: no kind":   func(x *api.Table) { x.Cols[1].Kind = api.Null },
		"rows: none":         func(x *api.Table) { x.Rows = nil },
		"rows: less":         func(x *api.Table) { x.Rows = x.Rows[:5] },
		"rows: too many":     func(x *api.Table) { x.Rows = append(x.Rows, make([][]api.Value, api.MaxSlots-5)...) },
		"rows: one more":     func(x *api.Table) { x.Rows = append(x.Rows, row(num(8), null, null, null)) },
		"rows: one empty":    func(x *api.Table) { x.Rows[0] = nil },
		"rows: none empty":   func(x *api.Table) { x.Rows[1] = row(num(9), null, null, null) },
		"rows: a key twice":  func(x *api.Table) { x.Rows[1] = row(num(3), null, null, null) },
		"rows: changed":      func(x *api.Table) { x.Rows[0], x.Rows[2] = x.Rows[2], x.Rows[0] },
		"rows: moved":        func(x *api.Table) { x.Rows[0], x.Rows[1] = x.Rows[1], x.Rows[0] },
		"row: too short":     func(x *api.Table) { x.Rows[0] = x.Rows[0][:3] },
		"row: too long":      func(x *api.Table) { x.Rows[0] = append(x.Rows[0], null) },
		"row: another key":   func(x *api.Table) { x.Rows[0][0] = num(6) },
		"row: a key's twin":  func(x *api.Table) { x.Rows[0][0] = num(1) },
		"row: no key":        func(x *api.Table) { x.Rows[0][0] = null },
		"row: key's kind":    func(x *api.Table) { x.Rows[0][0] = str("3") },
		"row: a kind":        func(x *api.Table) { x.Rows[0][2] = num(0) },
		"row: no kind":       func(x *api.Table) { x.Rows[0][2].Kind = 4 },
		"row: a text's form": func(x *api.Table) { x.Rows[0][2].Int = 1 },
		"row: a text's size": func(x *api.Table) { x.Rows[0][2].Text = strings.Repeat("x", api.MaxText+1) },
		"row: a bool's form": func(x *api.Table) { x.Rows[0][3].Int = 2 },
		"index: none":        func(x *api.Table) { x.Index = api.Tree{} },
		"index: empty":       func(x *api.Table) { x.Index = tree.New() },
		"index: no tree":     func(x *api.Table) { x.Index.Root++ },
		"index: far":         func(x *api.Table) { x.Index.Root = math.MaxInt },
		"index: less": func(x *api.Table) {
			x.Index, _ = tree.Delete(x.Index, keyOf(num(5)))
		},
		"index: more, of an empty row": func(x *api.Table) {
			x.Index, _ = tree.Insert(x.Index, keyOf(num(9)), 1)
		},
		"index: more, of no row": func(x *api.Table) {
			x.Index, _ = tree.Insert(x.Index, keyOf(num(9)), 6)
		},
		"index: more, of another row": func(x *api.Table) {
			x.Index, _ = tree.Insert(x.Index, keyOf(num(9)), 0)
		},
		"index: the place of an empty row": func(x *api.Table) { toPlace(x, 5, 1) },
		"index: the place of another row":  func(x *api.Table) { toPlace(x, 5, 0) },
		"index: a place behind":            func(x *api.Table) { toPlace(x, 5, 6) },
		"index: a place far behind":        func(x *api.Table) { toPlace(x, 5, math.MaxInt) },
		"index: a key of its own": func(x *api.Table) {
			x.Index, _ = tree.Delete(x.Index, keyOf(num(5)))
			x.Index, _ = tree.Insert(x.Index, []byte{5}, 3)
		},
		"index: a key and more": func(x *api.Table) {
			x.Index, _ = tree.Delete(x.Index, keyOf(num(5)))
			x.Index, _ = tree.Insert(x.Index, append(keyOf(num(5)), 0), 3)
		},
		"index: a longer key": func(x *api.Table) {
			x.Index, _ = tree.Insert(x.Index, append(keyOf(num(5)), 0), 3)
		},
		"index: places changed": func(x *api.Table) {
			toPlace(x, 5, 4)
			toPlace(x, 2, 3)
		},
	}
}

// toPlace: a key leads to another place.
func toPlace(x *api.Table, n, place int) {
	x.Index, _ = tree.Delete(x.Index, keyOf(num(n)))
	x.Index, _ = tree.Insert(x.Index, keyOf(num(n)), place)
}

// P8.1: each way of spoiling a base that may be.
func TestMayNotBe(t *testing.T) {
	for name, spoil := range spoilt() {
		b := usual(t)
		spoil(&b.Tables[0])
		wantWrong(t, name, b)
		slices.Reverse(b.Tables)
		wantWrong(t, name+", behind", b)
	}
	for i, l := range [][]api.Col{
		nil, make([]api.Col, 1), {{Name: "a"}}, {{Name: "a", Kind: 4}}, {{Name: "AND", Kind: api.Int}}, {{Name: "a", Kind: api.Int}, {Name: "a", Kind: api.Text}},
		make([]api.Col, 100000),
	} {
		wantWrong(t, "columns "+strconv.Itoa(i)+", of no rows", api.Base{Tables: []api.Table{{Name: "t", Cols: l, Index: tree.New()}}})
	}
	five := full(t)
	five.Tables = append(five.Tables, after(t, api.Base{}, "CREATE TABLE z (x INT)").Tables...)
	wantWrong(t, "five tables", five)
	wantWrong(t, "many tables", api.Base{Tables: make([]api.Table, 100000)})
	for i := range 4 {
		for j := range i {
			b := full(t)
			b.Tables[i] = fresh.Table(b.Tables[j])
			wantWrong(t, "a table twice", b)
			b = full(t)
			b.Tables[i].Name = b.Tables[j].Name
			wantWrong(t, "a name twice", b)
		}
	}
}
