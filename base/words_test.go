package base_test

import (
	"bytes"
	"fmt"
	"math"
	"slices"
	"sort"
	"strings"
	"testing"

	"padlock/api"
	"padlock/base"
	"padlock/expr"
	"padlock/fresh"
	"padlock/parse"
	"padlock/tree"
	"padlock/value"
)

// The words of the document, asked in another way: rows are found by going through all of them, never by their index, which
// is only kept.

// keyed: the places of the rows that there are, in the order of their first values.
func keyed(x api.Table) []int {
	var l []int
	for i, r := range x.Rows {
		if len(r) > 0 {
			l = append(l, i)
		}
	}
	sort.Slice(l, func(i, j int) bool { return stands(x.Rows[l[i]][0], x.Rows[l[j]][0]) < 0 })
	return l
}

// stands: which of two values stands ahead.
func stands(a, b api.Value) int {
	o, _ := value.Compare(a, b)
	return o
}

// place of a column.
func place(x api.Table, name string) int {
	for i, c := range x.Cols {
		if c.Name == name {
			return i
		}
	}
	return -1
}

// theMet rows: their places.
func theMet(x api.Table, where []api.Op) ([]int, api.Errno) {
	low, high, e := expr.Bounds(x.Cols, where)
	if e != api.OK {
		return nil, e
	}
	var l []int
	for _, i := range keyed(x) {
		k := keyOf(x.Rows[i][0])
		if bytes.Compare(k, low) < 0 || len(high) > 0 && bytes.Compare(k, high) > 0 {
			continue
		}
		v := api.Value{Kind: api.Bool, Int: 1}
		if len(where) > 0 {
			if v, e = expr.Eval(x.Cols, x.Rows[i], where); e != api.OK {
				return nil, e
			}
		}
		if v.Kind == api.Bool && v.Int == 1 {
			l = append(l, i)
		}
	}
	return l, api.OK
}

// inserted: the words of P8.4.
func inserted(x *api.Table, s api.Statement) (api.Result, api.Errno) {
	if e := expr.Row(x.Cols, s.Row); e != api.OK {
		return api.Result{}, e
	}
	for _, i := range keyed(*x) {
		if x.Rows[i][0] == s.Row[0] {
			return api.Result{}, api.ErrTwice
		}
	}
	if len(x.Rows) == api.MaxSlots {
		return api.Result{}, api.ErrFull
	}
	var e api.Errno
	x.Index, e = tree.Insert(x.Index, keyOf(s.Row[0]), len(x.Rows))
	x.Rows = append(x.Rows, s.Row)
	return api.Result{Count: 1}, e
}

// deleted: the words of P8.4.
func deleted(x *api.Table, s api.Statement) (api.Result, api.Errno) {
	l, e := theMet(*x, s.Where)
	for _, i := range l {
		x.Index, _ = tree.Delete(x.Index, keyOf(x.Rows[i][0]))
		x.Rows[i] = nil
	}
	return api.Result{Count: len(l)}, e
}

// selected: the words of P8.5.
func selected(x *api.Table, s api.Statement) (api.Result, api.Errno) {
	names := s.Names
	for _, c := range x.Cols {
		if len(s.Names) == 0 {
			names = append(names, c.Name)
		}
	}
	order := s.Order
	if order == "" {
		order = x.Cols[0].Name
	}
	for _, name := range append(slices.Clone(names), order) {
		if place(*x, name) < 0 {
			return api.Result{}, api.ErrNone
		}
	}
	l, e := theMet(*x, s.Where)
	if e != api.OK {
		return api.Result{}, e
	}
	sort.Slice(l, func(i, j int) bool {
		a, b := x.Rows[l[i]], x.Rows[l[j]]
		if o := stands(a[place(*x, order)], b[place(*x, order)]); o != 0 {
			return (o < 0) != s.Down
		}
		return bytes.Compare(keyOf(a[0]), keyOf(b[0])) < 0
	})
	var r api.Result
	for _, i := range l {
		if r.Count == s.Limit {
			break
		}
		r.Count++
		var shown []api.Value
		for _, name := range names {
			shown = append(shown, x.Rows[i][place(*x, name)])
		}
		r.Rows = append(r.Rows, shown)
	}
	if s.Count {
		r.Rows = [][]api.Value{{num(r.Count)}}
	}
	return r, api.OK
}

// updated: the words of P8.6.
func updated(x *api.Table, s api.Statement) (api.Result, api.Errno) {
	at := place(*x, s.Set)
	if at < 0 {
		return api.Result{}, api.ErrNone
	}
	kind, e := expr.Kind(x.Cols, s.To)
	if e != api.OK {
		return api.Result{}, e
	}
	if kind != api.Null && kind != x.Cols[at].Kind {
		return api.Result{}, api.ErrType
	}
	l, e := theMet(*x, s.Where)
	if e != api.OK {
		return api.Result{}, e
	}
	var values []api.Value
	for _, i := range l {
		v, e := expr.Eval(x.Cols, x.Rows[i], s.To)
		if e != api.OK {
			return api.Result{}, e
		}
		if at == 0 && v == null {
			return api.Result{}, api.ErrType
		}
		values = append(values, v)
	}
	for _, i := range l {
		if at == 0 {
			x.Index, _ = tree.Delete(x.Index, keyOf(x.Rows[i][0]))
		}
	}
	for j, i := range l {
		if at == 0 {
			if x.Index, e = tree.Insert(x.Index, keyOf(values[j]), i); e != api.OK {
				return api.Result{}, e
			}
		}
		x.Rows[i][at] = values[j]
	}
	return api.Result{Count: len(l)}, api.OK
}

// done: the words of P8.2, of a base that may be.
func done(b api.Base, s api.Statement) (api.Base, api.Result, api.Errno) {
	b = fresh.Base(b)
	if e := parse.Check(s); e != api.OK {
		return api.Base{}, api.Result{}, e
	}
	at := slices.IndexFunc(b.Tables, func(x api.Table) bool { return x.Name == s.Table })
	r, e := api.Result{}, api.OK
	switch {
	case s.Kind == api.Begin || s.Kind == api.Commit || s.Kind == api.Rollback:
		e = api.ErrKind
	case s.Kind == api.Create && at >= 0:
		e = api.ErrTwice
	case s.Kind == api.Create && len(b.Tables) == api.MaxTables:
		e = api.ErrFull
	case s.Kind == api.Create:
		b.Tables = append(b.Tables, api.Table{Name: s.Table, Cols: s.Cols, Index: tree.New()})
	case at < 0:
		e = api.ErrNone
	case s.Kind == api.Drop:
		b.Tables = slices.Delete(b.Tables, at, at+1)
	case s.Kind == api.Insert:
		r, e = inserted(&b.Tables[at], s)
	case s.Kind == api.Select:
		r, e = selected(&b.Tables[at], s)
	case s.Kind == api.Update:
		r, e = updated(&b.Tables[at], s)
	case s.Kind == api.Delete:
		r, e = deleted(&b.Tables[at], s)
	}
	if e != api.OK {
		return api.Base{}, api.Result{}, e
	}
	return b, r, api.OK
}

// wantWords: a statement is done as the words have it; the base behind it, and whether that is another one.
func wantWords(t *testing.T, b api.Base, s api.Statement) (api.Base, api.Errno) {
	t.Helper()
	was := fmt.Sprint(b, s)
	x, r, e := base.Run(b, s)
	y, q, f := done(b, s)
	if !same(x, y) || !same(r, q) || e != f {
		t.Fatalf("%v of %v: %v, %v, %d\nwant %v, %v, %d", s, b, x, r, e, y, q, f)
	}
	if is := fmt.Sprint(b, s); is != was {
		t.Fatalf("%s\nwas %s", is, was)
	}
	if e != api.OK {
		return b, e
	}
	if base.Check(x) != api.OK {
		t.Fatalf("%v of %v: %v may not be", s, b, x)
	}
	for _, table := range x.Tables {
		var want [][]api.Value
		for _, i := range keyed(table) {
			want = append(want, table.Rows[i])
		}
		if l, e := base.Rows(x, table.Name); !same(l, want) || e != api.OK {
			t.Fatalf("%v, %d\nwant %v", l, e, want)
		}
	}
	return x, api.OK
}

// die: numbers that look drawn, the same each time.
type die uint64

func (d *die) n(most int) int {
	*d = *d*6364136223846793005 + 1442695040888963407
	return int(uint64(*d>>33) % uint64(most))
}

// one of some.
func one[T any](d *die, l ...T) T { return l[d.n(len(l))] }

// value of a kind, now and then Null; most of them are there many times.
func (d *die) value(kind int) api.Value {
	switch {
	case d.n(12) == 0:
		return null
	case kind == api.Bool:
		return api.Value{Kind: kind, Int: d.n(2)}
	case kind == api.Text:
		return str(one(d, "", "\x00", "\x00\x00", "a", "a\x00", "ab", "b", "\xff", strings.Repeat("z", api.MaxText)))
	case d.n(8) == 0:
		return num(one(d, math.MaxInt, -math.MaxInt, math.MaxInt-1))
	}
	return num(d.n(60) - 10)
}

// expression that makes a kind, in most cases.
func (d *die) expression(l []api.Col, kind, depth int) []api.Op {
	if d.n(60) == 0 {
		kind = 1 + d.n(3)
	}
	if depth == 0 || kind == api.Text {
		for range 3 {
			if c := one(d, l...); c.Kind == kind {
				return []api.Op{{Kind: api.Column, Name: c.Name}}
			}
		}
		return []api.Op{{Kind: api.Literal, Value: d.value(kind)}}
	}
	of := 1 + d.n(3)
	op := one(d, api.Equal, api.Less, api.Less)
	switch d.n(6) {
	case 0:
		return append(d.expression(l, of, depth-1), api.Op{Kind: api.IsNull})
	case 1:
		return append(d.expression(l, api.Bool, depth-1), api.Op{Kind: api.Not})
	case 2, 3:
		of, op = api.Bool, one(d, api.And, api.And, api.Or)
	}
	if kind == api.Int {
		of, op = api.Int, one(d, api.Add, api.Sub, api.Add, api.Sub, api.Mul)
	}
	if op == api.Equal || op == api.Less {
		of = one(d, of, api.Int, api.Int)
	}
	return slices.Concat(d.expression(l, of, depth-1), d.expression(l, of, depth-1), []api.Op{{Kind: op}})
}

// compared: the first column and a Literal.
func (d *die) compared(l []api.Col) []api.Op {
	x := []api.Op{{Kind: api.Column, Name: l[0].Name}, {Kind: api.Literal, Value: d.value(l[0].Kind)}}
	if d.n(2) == 0 {
		slices.Reverse(x)
	}
	x = append(x, api.Op{Kind: one(d, api.Equal, api.Less, api.Less)})
	if d.n(3) == 0 {
		x = append(x, api.Op{Kind: api.Not})
	}
	return x
}

// where: ops of it, or none.
func (d *die) where(l []api.Col) []api.Op {
	switch d.n(6) {
	case 0:
		return nil
	case 1, 2:
		return d.compared(l)
	case 3:
		return slices.Concat(d.compared(l), d.compared(l), []api.Op{{Kind: api.And}})
	case 4:
		return slices.Concat(d.compared(l), d.expression(l, api.Bool, 2), []api.Op{{Kind: one(d, api.And, api.Or)}})
	}
	return d.expression(l, api.Bool, 1+d.n(4))
}

// cols of a table.
func (d *die) cols() []api.Col {
	var l []api.Col
	for _, name := range []string{"a", "b", "c", "d", "e", "f"}[d.n(6):] {
		l = append(l, api.Col{Name: name, Kind: one(d, api.Bool, api.Int, api.Int, api.Text)})
	}
	if d.n(4) > 0 {
		l[0].Kind = api.Int
	}
	return l
}

// column's name, now and then one that there is not.
func (d *die) column(l []api.Col) string {
	if d.n(40) == 0 {
		return "zz"
	}
	return one(d, l...).Name
}

// statement over a base.
func (d *die) statement(b api.Base) api.Statement {
	s := api.Statement{Kind: one(d, api.Insert, api.Insert, api.Insert, api.Select, api.Select, api.Update, api.Update, api.Delete), Table: one(d, "t", "u", "v", "w", "x"), Limit: -1}
	if len(b.Tables) > 0 && d.n(20) > 0 {
		s.Table = b.Tables[d.n(d.n(len(b.Tables))+1)].Name // the first ones most often, so that they fill up
	}
	switch d.n(60) {
	case 0:
		s.Kind = one(d, api.Drop, api.Begin)
	case 1, 2:
		s.Kind, s.Table = api.Create, one(d, "t", "u", "v", "w", "x")
	}
	if len(b.Tables) == 0 {
		s.Kind = api.Create
	}
	l := d.cols()
	for _, x := range b.Tables {
		if x.Name == s.Table {
			l = x.Cols
		}
	}
	switch s.Kind {
	case api.Create:
		s.Cols = d.cols()
	case api.Begin:
		s.Table = ""
	case api.Insert:
		for _, c := range l {
			s.Row = append(s.Row, d.value(c.Kind))
		}
		if d.n(30) == 0 {
			s.Row = append(s.Row, d.value(1))
		}
	case api.Select:
		for range d.n(5) - 1 {
			s.Names = append(s.Names, d.column(l))
		}
		s.Count = len(s.Names) == 0 && d.n(3) == 0
		if d.n(2) == 0 {
			s.Order, s.Down = d.column(l), d.n(2) == 0
		}
		if d.n(3) == 0 {
			s.Limit = d.n(6)
		}
	case api.Update:
		s.Set = d.column(l)
		s.To = d.expression(l, l[max(0, place(api.Table{Cols: l}, s.Set))].Kind, d.n(3))
		if d.n(4) == 0 {
			s.Set = l[0].Name
			s.To = []api.Op{{Kind: api.Column, Name: s.Set}, {Kind: api.Literal, Value: num(1 + d.n(3))}, {Kind: one(d, api.Add, api.Sub)}}
		}
	}
	if s.Kind == api.Select || s.Kind == api.Update || s.Kind == api.Delete {
		s.Where = d.where(l)
	}
	if s.Kind == api.Delete && d.n(2) == 0 { // few rows, so that tables fill up
		s.Where = d.compared(l)
	}
	if d.n(60) == 0 { // something is there that should not be
		s.Limit, s.Order, s.Set, s.Down = one(d, -1, -2, 0), one(d, "", "a", "AND"), one(d, "", "b", "0"), d.n(2) == 0
	}
	return s
}

// wantLater: the words of P8.8 and P8.9, of two tables that may be.
func wantLater(t *testing.T, d *die, was, now api.Table) api.Errno {
	t.Helper()
	one := was.Name == now.Name && same(was.Cols, now.Cols)
	var want []int
	for i, r := range now.Rows {
		if i >= len(was.Rows) || !same(r, was.Rows[i]) {
			want = append(want, i)
		}
	}
	slots, e := base.Changed(was, now)
	if !one || len(now.Rows) < len(was.Rows) {
		slots = nil
		want = nil
		if e != api.ErrState {
			t.Fatalf("%v, %v: %d", was, now, e)
		}
	}
	if !slices.Equal(slots, want) {
		t.Fatalf("%v, %v: %v, %d, want %v", was, now, slots, e, want)
	}
	if d.n(2) == 0 {
		slots = nil
		for range d.n(8) {
			slots = append(slots, d.n(max(1, len(now.Rows)+d.n(16)/15))-d.n(60)/59)
		}
	}
	x, e := base.Undo(now, was, slots)
	f := api.OK
	y := api.Table{Name: now.Name, Cols: now.Cols, Index: tree.New()}
	for i, r := range now.Rows {
		if slices.Contains(slots, i) {
			r = nil
			if i < len(was.Rows) {
				r = was.Rows[i]
			}
		}
		y.Rows = append(y.Rows, r)
		if len(r) > 0 && f == api.OK && one {
			y.Index, f = tree.Insert(y.Index, keyOf(r[0]), i)
		}
	}
	if slices.ContainsFunc(slots, func(i int) bool { return i < 0 || i >= len(now.Rows) }) {
		f = api.ErrRange
	}
	if !one {
		f = api.ErrState
	}
	if f != api.OK {
		y = api.Table{}
	}
	if !same(x, y) || e != f {
		t.Fatalf("%v of %v, %v: %v, %d\nwant %v, %d", slots, now, was, x, e, y, f)
	}
	return e
}

// Drawn statements, one behind the other; and tables at two times.
func TestDrawn(t *testing.T) {
	told := map[string]int{}
	for seed := range 50 {
		d := die(seed)
		var b api.Base
		var before []api.Table
		for range 300 {
			s := d.statement(b)
			var e api.Errno
			b, e = wantWords(t, b, s)
			told[fmt.Sprint(s.Kind, " ", e)]++
			if len(b.Tables) == 0 {
				continue
			}
			now := one(&d, b.Tables...)
			for _, was := range before {
				if was.Name == now.Name && d.n(6) == 0 || d.n(40) == 0 {
					told[fmt.Sprint("undo ", wantLater(t, &d, was, now))]++
				}
			}
			if before = append(before, fresh.Table(one(&d, b.Tables...))); len(before) > 8 {
				before = before[1:]
			}
		}
	}
	for _, kind := range []int{api.Insert, api.Select, api.Update, api.Delete} { // were they drawn so that much is told?
		for _, e := range []api.Errno{api.OK, api.ErrNone, api.ErrType, api.ErrOver, api.ErrTwice, api.ErrFull} {
			n := told[fmt.Sprint(kind, " ", e)]
			if may := kind == api.Insert && e != api.ErrOver || kind != api.Insert && e != api.ErrFull && (kind == api.Update || e != api.ErrTwice); n < 5 && may {
				t.Errorf("statements of kind %d, told %d: %d", kind, e, n)
			}
		}
	}
	for _, e := range []api.Errno{api.OK, api.ErrRange, api.ErrState, api.ErrTwice} {
		if n := told[fmt.Sprint("undo ", e)]; n < 5 {
			t.Errorf("Undo, told %d: %d", e, n)
		}
	}
}
