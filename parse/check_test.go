package parse_test

import (
	"math"
	"strings"
	"testing"

	"padlock/api"
	"padlock/parse"
)

// kindNames of statements.
var kindNames = []string{api.Create: "Create", api.Drop: "Drop", api.Insert: "Insert", api.Select: "Select", api.Update: "Update",
	api.Delete: "Delete", api.Begin: "Begin", api.Commit: "Commit", api.Rollback: "Rollback"}

// whole statement of a kind, new each time: it has all that its kind may have.
func whole(kind int) api.Statement {
	s := api.Statement{Kind: kind, Limit: -1}
	if kind <= api.Delete {
		s.Table = "t"
	}
	switch kind {
	case api.Create:
		s.Cols = cols(col("a", api.Int), col("b", api.Bool), col("c", api.Text))
	case api.Insert:
		s.Row = row(num(1), yes, str("x"), null)
	case api.Select:
		s.Names, s.Where, s.Order, s.Down, s.Limit = []string{"a", "b", "a"}, told("a b eq"), "b", true, 3
	case api.Update:
		s.Set, s.To, s.Where = "a", told("b 1 add"), told("c null?")
	case api.Delete:
		s.Where = told("a not")
	}
	return s
}

// wantChecked: what Check says, and Show likewise.
func wantChecked(t *testing.T, s api.Statement, want api.Errno) {
	t.Helper()
	if e := parse.Check(s); e != want {
		t.Errorf("Check(%v) = %d, want %d", s, e, want)
	}
	if l, e := parse.Show(s); e != want || e != api.OK && len(l) > 0 {
		t.Errorf("Show(%v) = %v, %d, want %d", s, l, e, want)
	}
}

// P6.6: statements that may be.
func TestMayBe(t *testing.T) {
	for kind := api.Create; kind <= api.Rollback; kind++ {
		wantChecked(t, whole(kind), api.OK)
	}
	six := func(v api.Value) []api.Value { return row(v, v, v, v, v, v) }
	for _, s := range []api.Statement{
		{Kind: api.Create, Table: "a2345678", Cols: cols(col("a2345678", api.Text)), Limit: -1},
		{Kind: api.Create, Table: "a", Cols: cols(col("a", 1), col("A", 1), col("b", 1), col("c", 2), col("d", 3), col("e", 3)), Limit: -1},
		{Kind: api.Insert, Table: "t", Row: row(null), Limit: -1},
		{Kind: api.Insert, Table: "t", Row: six(num(math.MinInt + 1)), Limit: -1},
		{Kind: api.Insert, Table: "t", Row: six(str(strings.Repeat("'", api.MaxText))), Limit: -1},
		{Kind: api.Select, Table: "t", Limit: -1},
		{Kind: api.Select, Table: "t", Limit: 0},
		{Kind: api.Select, Table: "t", Limit: math.MaxInt},
		{Kind: api.Select, Table: "t", Count: true, Order: "a", Down: true, Limit: 1},
		{Kind: api.Select, Table: "t", Names: []string{"a", "a", "a", "a", "a", "a"}, Order: "a", Limit: -1},
		{Kind: api.Select, Table: "t", Names: []string{}, Count: true, Where: []api.Op{}, Limit: -1},
		{Kind: api.Update, Table: "t", Set: "t", To: told("null"), Limit: -1},
		{Kind: api.Update, Table: "t", Set: "t", To: told("null"), Where: []api.Op{}, Limit: -1, Cols: []api.Col{}, Row: []api.Value{}, Names: []string{}},
		{Kind: api.Delete, Table: "t", Limit: -1},
		{Kind: api.Begin, Limit: -1, Cols: []api.Col{}, Row: []api.Value{}, Names: []string{}, Where: []api.Op{}, To: []api.Op{}},
	} {
		wantChecked(t, s, api.OK)
	}
}

// spoiling of a statement that may be: what is said of it then.
type spoiling struct {
	want  api.Errno
	spoil func(s *api.Statement)
}

// names that may not be.
var wrongNames = []struct {
	s    string
	want api.Errno
}{{"a23456789", api.ErrSize}, {"ROLLBACKS", api.ErrSize}, {"", api.ErrForm}, {"SELECT", api.ErrForm}, {"NULL", api.ErrForm}, {"1", api.ErrForm}, {"a b", api.ErrForm}}

// spoilName: each way in which a name may not be.
func spoilName(at func(s *api.Statement) *string) []spoiling {
	var l []spoiling
	for _, w := range wrongNames {
		l = append(l, spoiling{w.want, func(s *api.Statement) { *at(s) = w.s }})
	}
	return l
}

// spoilOps: ways in which ops may be no expression.
func spoilOps(at func(s *api.Statement) *[]api.Op, empty bool) []spoiling {
	var l []spoiling
	for _, w := range []struct {
		ops  []api.Op
		want api.Errno
	}{
		{make([]api.Op, api.MaxOps+1), api.ErrFull}, {ops(op(0)), api.ErrKind}, {ops(literal(num(math.MinInt))), api.ErrRange}, {ops(literal(api.Value{Kind: 4})), api.ErrKind},
		{ops(column("SELECT")), api.ErrForm}, {ops(column("a23456789")), api.ErrSize}, {told("a a"), api.ErrShort}, {told("and"), api.ErrShort}, {nil, api.ErrShort}, {[]api.Op{}, api.ErrShort},
	} {
		if len(w.ops) > 0 || empty {
			l = append(l, spoiling{w.want, func(s *api.Statement) { *at(s) = w.ops }})
		}
	}
	return l
}

// spoilCols of a Create.
func spoilCols() []spoiling {
	l := []spoiling{
		{api.ErrSize, func(s *api.Statement) { s.Cols = nil }},
		{api.ErrSize, func(s *api.Statement) {
			s.Cols = append(s.Cols, col("d", 1), col("e", 1), col("f", 1), col("g", 1))
		}},
		{api.ErrSize, func(s *api.Statement) { s.Cols = make([]api.Col, api.MaxValues+1) }},
		{api.ErrSize, func(s *api.Statement) { s.Cols = make([]api.Col, 5000) }},
	}
	for i := range 3 {
		l = append(l, spoilName(func(s *api.Statement) *string { return &s.Cols[i].Name })...)
		for _, kind := range []int{api.Null, 4, -1, math.MinInt, math.MaxInt} {
			l = append(l, spoiling{api.ErrKind, func(s *api.Statement) { s.Cols[i].Kind = kind }})
		}
		for k := range i {
			l = append(l, spoiling{api.ErrTwice, func(s *api.Statement) { s.Cols[i].Name = s.Cols[k].Name }})
		}
	}
	return l
}

// spoilRow of an Insert.
func spoilRow() []spoiling {
	l := []spoiling{
		{api.ErrSize, func(s *api.Statement) { s.Row = nil }},
		{api.ErrSize, func(s *api.Statement) { s.Row = append(s.Row, null, null, null) }},
		{api.ErrSize, func(s *api.Statement) { s.Row = make([]api.Value, 5000) }},
	}
	for i := range 4 {
		for _, w := range []struct {
			v    api.Value
			want api.Errno
		}{
			{num(math.MinInt), api.ErrRange}, {api.Value{Kind: 4}, api.ErrKind}, {api.Value{Kind: -1, Int: 7}, api.ErrKind}, {api.Value{Kind: api.Bool, Int: 2}, api.ErrForm},
			{api.Value{Kind: api.Null, Int: math.MinInt}, api.ErrForm}, {api.Value{Kind: api.Int, Text: "x"}, api.ErrForm}, {str(strings.Repeat("x", api.MaxText+1)), api.ErrSize},
		} {
			l = append(l, spoiling{w.want, func(s *api.Statement) { s.Row[i] = w.v }})
		}
	}
	return l
}

// spoilSelect: its own parts.
func spoilSelect() []spoiling {
	l := []spoiling{
		{api.ErrSize, func(s *api.Statement) { s.Names = append(s.Names, "a", "a", "a", "a") }},
		{api.ErrSize, func(s *api.Statement) { s.Names = make([]string, 5000) }},
		{api.ErrRange, func(s *api.Statement) { s.Limit = -2 }},
		{api.ErrRange, func(s *api.Statement) { s.Limit = math.MinInt }},
		{api.ErrForm, func(s *api.Statement) { s.Count = true }},
		{api.ErrForm, func(s *api.Statement) { s.Order = "" }},
	}
	for i := range 3 {
		l = append(l, spoilName(func(s *api.Statement) *string { return &s.Names[i] })...)
	}
	l = append(l, spoilOps(func(s *api.Statement) *[]api.Op { return &s.Where }, false)...)
	for _, w := range wrongNames {
		if w.s != "" {
			l = append(l, spoiling{w.want, func(s *api.Statement) { s.Order = w.s }})
		}
	}
	return l
}

// spoilMore: what a kind has not.
func spoilMore(kind int) []spoiling {
	own := [...]string{api.Create: "TC", api.Drop: "T", api.Insert: "TR", api.Select: "TN#WODL", api.Update: "TStW", api.Delete: "TW", api.Begin: "", api.Commit: "", api.Rollback: ""}[kind]
	var l []spoiling
	more := func(part string, spoil func(s *api.Statement)) {
		if !strings.Contains(own, part) {
			l = append(l, spoiling{api.ErrForm, spoil})
		}
	}
	more("T", func(s *api.Statement) { s.Table = "t" })
	more("T", func(s *api.Statement) { s.Table = "a23456789" })
	more("C", func(s *api.Statement) { s.Cols = cols(col("a", api.Int)) })
	more("C", func(s *api.Statement) { s.Cols = make([]api.Col, 9) })
	more("R", func(s *api.Statement) { s.Row = row(null) })
	more("R", func(s *api.Statement) { s.Row = row(num(math.MinInt)) })
	more("N", func(s *api.Statement) { s.Names = []string{""} })
	more("#", func(s *api.Statement) { s.Count = true })
	more("W", func(s *api.Statement) { s.Where = ops(op(0)) })
	more("W", func(s *api.Statement) { s.Where = told("a") })
	more("O", func(s *api.Statement) { s.Order = "a" })
	more("D", func(s *api.Statement) { s.Down = true })
	more("S", func(s *api.Statement) { s.Set = "a" })
	more("t", func(s *api.Statement) { s.To = told("a") })
	for _, n := range []int{0, 1, -2, math.MinInt, math.MaxInt} {
		more("L", func(s *api.Statement) { s.Limit = n })
	}
	return l
}

// spoilings of a kind, in the order in which the document names them.
func spoilings(kind int) []spoiling {
	var l []spoiling
	for _, n := range []int{0, -1, 10, math.MinInt, math.MaxInt} {
		l = append(l, spoiling{api.ErrKind, func(s *api.Statement) { s.Kind = n }})
	}
	if kind <= api.Delete {
		l = append(l, spoilName(func(s *api.Statement) *string { return &s.Table })...)
	}
	where := spoilOps(func(s *api.Statement) *[]api.Op { return &s.Where }, false)
	switch kind {
	case api.Create:
		l = append(l, spoilCols()...)
	case api.Insert:
		l = append(l, spoilRow()...)
	case api.Select:
		l = append(l, spoilSelect()...)
	case api.Update:
		l = append(l, spoilName(func(s *api.Statement) *string { return &s.Set })...)
		l = append(l, spoilOps(func(s *api.Statement) *[]api.Op { return &s.To }, true)...)
		l = append(l, where...)
	case api.Delete:
		l = append(l, where...)
	}
	l = append(l, spoilMore(kind)...)
	switch kind {
	case api.Select, api.Update, api.Delete:
		l = append(l, spoiling{api.ErrFull, func(s *api.Statement) { s.Where = told("a" + strings.Repeat(" null?", 39)) }})
	}
	return l
}

// P6.6: each way in which a statement may not be, and of two of them the one that is named first.
func TestMayNotBe(t *testing.T) {
	for kind := api.Create; kind <= api.Rollback; kind++ {
		l := spoilings(kind)
		for i, a := range l {
			s := whole(kind)
			a.spoil(&s)
			wantChecked(t, s, a.want)
			for _, b := range l[i+1:] {
				s := whole(kind)
				b.spoil(&s) // first, so that what a spoils is spoiled
				a.spoil(&s)
				if e := parse.Check(s); e != a.want {
					t.Errorf("%s: Check(%v) = %d, want %d", kindNames[kind], s, e, a.want)
				}
			}
		}
	}
	wantChecked(t, api.Statement{}, api.ErrKind)
	wantChecked(t, api.Statement{Kind: api.Rollback}, api.ErrForm) // its Limit is not -1
}

// P6.6: a Select has Down only with Order, and Count only without Names.
func TestSelectForm(t *testing.T) {
	for i := range 16 {
		s := api.Statement{Kind: api.Select, Table: "t", Limit: -1, Count: i&1 > 0, Down: i&2 > 0}
		if i&4 > 0 {
			s.Names = []string{"a"}
		}
		if i&8 > 0 {
			s.Order = "a"
		}
		want := api.OK
		if s.Count && i&4 > 0 || s.Down && i&8 == 0 {
			want = api.ErrForm
		}
		wantChecked(t, s, want)
	}
}

// P6.6: statements that Show would make MaxTokens tokens of, and more.
func TestCheckFull(t *testing.T) {
	ops := func(nulls, nots int) []api.Op { // 1 + 4 * nulls + 3 * nots tokens
		return told("a" + strings.Repeat(" null?", nulls) + strings.Repeat(" not", nots))
	}
	for _, c := range []struct {
		s    api.Statement
		want int // how many tokens
	}{
		{api.Statement{Kind: api.Delete, Where: ops(23, 1)}, 100},
		{api.Statement{Kind: api.Delete, Where: ops(24, 0)}, 101},
		{api.Statement{Kind: api.Delete, Where: ops(0, 31)}, 98},
		{api.Statement{Kind: api.Delete, Where: ops(0, 32)}, 101},
		{api.Statement{Kind: api.Select, Where: ops(23, 0)}, 98},
		{api.Statement{Kind: api.Select, Where: ops(20, 4)}, 98},
		{api.Statement{Kind: api.Select, Where: ops(20, 4), Order: "a"}, 101},
		{api.Statement{Kind: api.Select, Where: ops(23, 0), Count: true}, 101},
		{api.Statement{Kind: api.Select, Where: ops(19, 4), Order: "a", Down: true}, 98},
		{api.Statement{Kind: api.Select, Where: ops(17, 7), Order: "a", Down: true}, 99},
		{api.Statement{Kind: api.Select, Where: ops(18, 6), Order: "a", Down: true}, 100},
		{api.Statement{Kind: api.Select, Where: ops(19, 5), Order: "a", Down: true}, 101},
		{api.Statement{Kind: api.Select, Where: ops(20, 3), Order: "a", Names: []string{"a", "b"}}, 100},
		{api.Statement{Kind: api.Select, Where: ops(20, 3), Order: "a", Down: true, Names: []string{"a", "b"}}, 101},
		{api.Statement{Kind: api.Update, Set: "a", To: ops(23, 0)}, 98},
		{api.Statement{Kind: api.Update, Set: "a", To: ops(20, 5)}, 101},
		{api.Statement{Kind: api.Update, Set: "a", To: ops(10, 1), Where: ops(10, 2)}, 97},
		{api.Statement{Kind: api.Update, Set: "a", To: ops(10, 1), Where: ops(10, 3)}, 100},
		{api.Statement{Kind: api.Update, Set: "a", To: ops(11, 1), Where: ops(10, 3)}, 104},
		{api.Statement{Kind: api.Update, Set: "a", To: ops(39, 0), Where: ops(0, 39)}, 281},
	} {
		c.s.Table, c.s.Limit = "t", -1
		if c.want > api.MaxTokens {
			wantChecked(t, c.s, api.ErrFull)
		} else if l, e := parse.Show(c.s); len(l) != c.want || e != api.OK {
			t.Errorf("Show(%v): %d, %d, want %d", c.s, len(l), e, c.want)
		}
	}
}
