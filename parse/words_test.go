package parse_test

import (
	"slices"
	"strings"
	"testing"

	"padlock/api"
	"padlock/lex"
	"padlock/parse"
)

// The words of the document, asked in another way: which tokens may stand where is told by rules alone, with which all
// ways of going on are held open; what a statement says is found by taking it apart at its weakest op.

// rules: what small letters stand for. COLUMN is a name that is not there already; of a list of six FULL is the comma by
// which it would go on too long.
const rules = `
statement = CREATE TABLE NAME ( cols1 ) | DROP TABLE NAME | INSERT INTO NAME VALUES ( row1 )
statement = SELECT what FROM NAME where order limit | UPDATE NAME SET NAME = or where | DELETE FROM NAME where
statement = BEGIN | COMMIT | ROLLBACK
kind = BOOL | INT | TEXT
literal = NULL | TRUE | FALSE | NUMBER | - NUMBER | STRING
what = * | COUNT ( * ) | names1
where = | WHERE or
order = | ORDER BY NAME down
down = | DESC
limit = | LIMIT NUMBER
or = and ors
ors = | OR and ors
and = not ands
ands = | AND not ands
not = NOT not | sum compared
compared = | = sum | < sum | <> sum | >= sum | > sum | <= sum | IS NULL | IS NOT NULL
sum = product products
products = | + product products | - product products
product = thing things
things = | * thing things
thing = literal | NAME | ( or )
cols1 = COLUMN kind | COLUMN kind , cols2
cols2 = COLUMN kind | COLUMN kind , cols3
cols3 = COLUMN kind | COLUMN kind , cols4
cols4 = COLUMN kind | COLUMN kind , cols5
cols5 = COLUMN kind | COLUMN kind , cols6
cols6 = COLUMN kind | COLUMN kind FULL
row1 = literal | literal , row2
row2 = literal | literal , row3
row3 = literal | literal , row4
row4 = literal | literal , row5
row5 = literal | literal , row6
row6 = literal | literal FULL
names1 = NAME | NAME , names2
names2 = NAME | NAME , names3
names3 = NAME | NAME , names4
names4 = NAME | NAME , names5
names5 = NAME | NAME , names6
names6 = NAME | NAME FULL
`

// ways in which each rule may go on.
var ways = func() map[string][][]string {
	m := map[string][][]string{}
	for _, line := range strings.Split(strings.TrimSpace(rules), "\n") {
		name, rest, _ := strings.Cut(line, " =")
		for _, way := range strings.Split(rest, " |") {
			m[name] = append(m[name], strings.Fields(way))
		}
	}
	return m
}()

// stack of what has to come; nil: nothing.
type stack struct {
	top  string
	rest *stack
}

// opened: all ways in which a stack may go on, with what is no rule on top.
func opened(l []*stack, s *stack) []*stack {
	if s == nil || ways[s.top] == nil {
		return append(l, s)
	}
	for _, way := range ways[s.top] {
		on := s.rest
		for i := len(way) - 1; i >= 0; i-- {
			on = &stack{way[i], on}
		}
		l = opened(l, on)
	}
	return l
}

// state of going along tokens: how it may go on, and the columns that are there.
type state struct {
	open  []*stack
	names []string
}

// start of it all.
func start() state { return state{open: opened(nil, &stack{"statement", nil})} }

// isName: may a word be one?
func isName(s string) bool { return len(s) <= api.MaxName && !slices.Contains(keptWords, s) }

// fits: may a token stand for what is on top?
func (s state) fits(top string, x api.Token) bool {
	switch top {
	case "NAME":
		return x.Kind == api.Word && isName(x.Text)
	case "COLUMN":
		return x.Kind == api.Word && isName(x.Text) && !slices.Contains(s.names, x.Text)
	case "NUMBER":
		return x.Kind == api.Number
	case "STRING":
		return x.Kind == api.String && len(x.Text) <= api.MaxText
	}
	return (x.Kind == api.Word || x.Kind == api.Mark) && x.Text == top
}

// next state, behind a token; what is wrong with it, if it is.
func (s state) next(x api.Token) (state, api.Errno) {
	var to state
	to.names = s.names
	tops := map[string]bool{}
	for _, o := range s.open {
		if o == nil {
			continue
		}
		tops[o.top] = true
		if s.fits(o.top, x) {
			to.open = opened(to.open, o.rest)
		}
	}
	if tops["COLUMN"] && to.open != nil {
		to.names = append(slices.Clone(s.names), x.Text)
	}
	switch {
	case to.open != nil:
		return to, api.OK
	case x.Kind == api.Word && (tops["NAME"] || tops["COLUMN"]) && len(x.Text) > api.MaxName:
		return to, api.ErrSize
	case x.Kind == api.Word && tops["COLUMN"] && isName(x.Text):
		return to, api.ErrTwice
	case x.Kind == api.String && tops["STRING"]:
		return to, api.ErrSize
	case x == mark(",") && tops["FULL"]:
		return to, api.ErrFull
	}
	return to, api.ErrForm
}

// mayEnd: may a statement end here?
func (s state) mayEnd() bool { return slices.Contains(s.open, nil) }

// placed op: the last token of it, and of what it works on.
type placed struct {
	o     api.Op
	place int
}

// is a token this word or mark?
func is(x api.Token, s string) bool { return (x.Kind == api.Word || x.Kind == api.Mark) && x.Text == s }

// weakest: where in an expression the last of these words and marks stands, outside of brackets; -1: nowhere. A - stands
// between two things, if there is one ahead of it.
func weakest(l []api.Token, words ...string) int {
	deep, at := 0, -1
	for i, x := range l {
		if is(x, "(") {
			deep++
		}
		if is(x, ")") {
			deep--
		}
		if deep > 0 || x.Kind != api.Word && x.Kind != api.Mark || !slices.Contains(words, x.Text) {
			continue
		}
		if x.Text == "-" && (i == 0 || l[i-1].Kind == api.Mark && l[i-1].Text != ")" || l[i-1].Kind == api.Word && slices.Contains([]string{"AND", "OR", "NOT"}, l[i-1].Text)) {
			continue
		}
		at = i
	}
	return at
}

// apart: the ops of an expression that begins at some token.
func apart(l []api.Token, from int) []placed {
	end := from + len(l) - 1
	two := func(at int, turned bool, kinds ...int) []placed {
		a, b := apart(l[:at], from), apart(l[at+1:], from+at+1)
		if turned {
			a, b = b, a
		}
		out := slices.Concat(a, b)
		for _, kind := range kinds {
			out = append(out, placed{op(kind), end})
		}
		return out
	}
	if at := weakest(l, "OR"); at >= 0 {
		return two(at, false, api.Or)
	}
	if at := weakest(l, "AND"); at >= 0 {
		return two(at, false, api.And)
	}
	if is(l[0], "NOT") {
		return append(apart(l[1:], from+1), placed{op(api.Not), end})
	}
	if at := weakest(l, "IS"); at >= 0 {
		out := append(apart(l[:at], from), placed{op(api.IsNull), end})
		if is(l[at+1], "NOT") {
			out = append(out, placed{op(api.Not), end})
		}
		return out
	}
	if at := weakest(l, "=", "<", "<>", ">=", ">", "<="); at >= 0 {
		switch l[at].Text {
		case "=":
			return two(at, false, api.Equal)
		case "<>":
			return two(at, false, api.Equal, api.Not)
		case "<":
			return two(at, false, api.Less)
		case ">=":
			return two(at, false, api.Less, api.Not)
		case ">":
			return two(at, true, api.Less)
		}
		return two(at, true, api.Less, api.Not)
	}
	if at := weakest(l, "+", "-"); at >= 0 {
		return two(at, false, map[string]int{"+": api.Add, "-": api.Sub}[l[at].Text])
	}
	if at := weakest(l, "*"); at >= 0 {
		return two(at, false, api.Mul)
	}
	if is(l[0], "(") {
		return apart(l[1:len(l)-1], from+1)
	}
	if l[0].Kind == api.Word && isName(l[0].Text) {
		return []placed{{column(l[0].Text), end}}
	}
	return []placed{{literal(valueOf(l)), end}}
}

// valueOf a literal's tokens.
func valueOf(l []api.Token) api.Value {
	x := l[len(l)-1]
	switch {
	case len(l) == 2:
		return num(-x.Int)
	case x.Kind == api.Number:
		return num(x.Int)
	case x.Kind == api.String:
		return str(x.Text)
	}
	return map[string]api.Value{"NULL": null, "TRUE": yes, "FALSE": no}[x.Text]
}

// behind: the tokens behind a word, up to the next one of some others; and their place.
func behind(l []api.Token, s string, ends ...string) ([]api.Token, int) {
	from := slices.IndexFunc(l, func(x api.Token) bool { return is(x, s) }) + 1
	if from == 0 {
		return nil, 0
	}
	n := slices.IndexFunc(l[from:], func(x api.Token) bool { return x.Kind == api.Word && slices.Contains(ends, x.Text) })
	if n < 0 {
		n = len(l) - from
	}
	return l[from : from+n], from
}

// listed: the pieces between commas.
func listed(l []api.Token) [][]api.Token {
	var out [][]api.Token
	for len(l) > 0 {
		n := slices.Index(l, mark(","))
		if n < 0 {
			return append(out, l)
		}
		out, l = append(out, l[:n]), l[n+1:]
	}
	return out
}

// taken: ops of tokens from a place on; the place where they are too many, else -1.
func taken(l []api.Token, from int) ([]api.Op, int) {
	if len(l) == 0 {
		return nil, -1
	}
	var out []api.Op
	var places []int
	for _, p := range apart(l, from) {
		out, places = append(out, p.o), append(places, p.place)
	}
	slices.Sort(places)
	if len(places) > api.MaxOps {
		return nil, places[api.MaxOps]
	}
	return out, -1
}

// says: what tokens say that are a statement; the place where an expression has too many ops, else -1.
func says(l []api.Token) (api.Statement, int) {
	s := api.Statement{Limit: -1, Kind: slices.Index(strings.Fields("CREATE DROP INSERT SELECT UPDATE DELETE BEGIN COMMIT ROLLBACK"), l[0].Text) + 1}
	for _, ahead := range []string{"TABLE", "INTO", "FROM", "UPDATE"} {
		if rest, _ := behind(l, ahead); rest != nil {
			s.Table = rest[0].Text
		}
	}
	switch s.Kind {
	case api.Create:
		for _, c := range listed(l[4 : len(l)-1]) {
			s.Cols = append(s.Cols, col(c[0].Text, map[string]int{"BOOL": api.Bool, "INT": api.Int, "TEXT": api.Text}[c[1].Text]))
		}
	case api.Insert:
		for _, v := range listed(l[5 : len(l)-1]) {
			s.Row = append(s.Row, valueOf(v))
		}
	case api.Select:
		what, _ := behind(l, "SELECT", "FROM")
		s.Count = is(what[0], "COUNT")
		if what[0].Kind == api.Word && !s.Count {
			for _, c := range listed(what) {
				s.Names = append(s.Names, c[0].Text)
			}
		}
		if order, _ := behind(l, "BY"); order != nil {
			s.Order, s.Down = order[0].Text, len(order) > 1 && is(order[1], "DESC")
		}
		if limit, _ := behind(l, "LIMIT"); limit != nil {
			s.Limit = limit[0].Int
		}
	case api.Update:
		s.Set = l[3].Text
		to, from := behind(l, "=", "WHERE")
		ops, full := taken(to, from)
		if full >= 0 {
			return api.Statement{}, full
		}
		s.To = ops
	}
	where, from := behind(l, "WHERE", "ORDER", "LIMIT")
	ops, full := taken(where, from)
	if full >= 0 {
		return api.Statement{}, full
	}
	s.Where = ops
	return s, -1
}

// wantSays: tokens behind which the state is that one; all of them can stand where they stand.
func (s state) wantSays(t *testing.T, l []api.Token) {
	t.Helper()
	if !s.mayEnd() {
		wantWrong(t, l, len(l), api.ErrShort)
		return
	}
	want, full := says(l)
	if full >= 0 {
		wantWrong(t, l, full, api.ErrFull)
		return
	}
	if got, place, e := parse.Parse(l); !same(got, want) || place != 0 || e != api.OK {
		t.Errorf("Parse(%s) = %v, %d, %d, want %v", spelled(l), got, place, e, want)
	}
}

// wantWords: what the document says of tokens.
func wantWords(t *testing.T, l []api.Token) {
	t.Helper()
	s := start()
	for i, x := range l {
		var e api.Errno
		if s, e = s.next(x); e != api.OK {
			wantWrong(t, l, i, e)
			return
		}
	}
	s.wantSays(t, l)
}

// walk all tokens out of some that may stand behind others, and no more than so many; and behind each all that may not.
func walk(t *testing.T, s state, l, out []api.Token, most int) int {
	s.wantSays(t, l)
	n := 1
	for _, x := range out {
		on := append(l[:len(l):len(l)], x)
		to, e := s.next(x)
		switch {
		case e != api.OK:
			wantWrong(t, on, len(l), e)
		case most > 0:
			n += walk(t, to, on, out, most-1)
		}
	}
	return n
}

// P6.2, P6.4: all short lists of tokens.
func TestAllShort(t *testing.T) {
	var out []api.Token
	for _, s := range append(slices.Clone(keptWords), "t", "a23456789") {
		out = append(out, word(s))
	}
	for _, s := range strings.Fields("( ) , * + - = < > <= >= <>") {
		out = append(out, mark(s))
	}
	out = append(out, number(3), text("x"), text("twenty-one bytes are "), text("NULL"))
	if n := walk(t, start(), nil, out, 7); n < 500 {
		t.Error(n)
	}
}

// P6.3, P6.4: all short expressions.
func TestAllShortExpressions(t *testing.T) {
	for _, c := range []struct {
		words string
		most  int
	}{
		{"a 1 - ( ) NOT AND OR = <= + * IS NULL", 4}, {"a - 1 + *", 7}, {"a ( ) - 1 >", 6}, {"a NOT AND OR", 7}, {"a NOT IS NULL =", 7}, {"a < > <> >= AND ( )", 6},
	} {
		l := tokens(t, "DELETE FROM t WHERE")
		s := start()
		for _, x := range l {
			s, _ = s.next(x)
		}
		if n := walk(t, s, l, tokens(t, c.words), c.most); n < 50 {
			t.Error(n)
		}
	}
}

// die: numbers that look drawn, the same each time.
type die uint64

func (d *die) n(most int) int {
	*d = *d*6364136223846793005 + 1442695040888963407
	return int(uint64(*d>>33) % uint64(most))
}

// one of some.
func (d *die) one(l ...string) string { return l[d.n(len(l))] }

// expression of a text, with so many ops or some more.
func (d *die) expression(n int) string {
	if n <= 1 {
		return d.one("a", "b", "a2345678", "0", "17", "- 3", "- 0", "'x'", "''", "'it''s'", "'AND'", "NULL", "TRUE", "FALSE")
	}
	switch d.n(7) {
	case 0:
		return "( " + d.expression(n) + " )"
	case 1:
		return "NOT " + d.expression(n-1)
	case 2:
		return d.expression(n-1) + d.one(" IS NULL", " IS NOT NULL")
	}
	k := 1 + d.n(n-1)
	a, b := d.expression(k), d.expression(n-k)
	if d.n(2) == 0 {
		a = "( " + a + " )"
	}
	if d.n(3) == 0 {
		b = "( " + b + " )"
	}
	return a + d.one(" AND ", " OR ", " = ", " < ", " > ", " <= ", " >= ", " <> ", " + ", " - ", " * ") + b
}

// sound: an expression of so many ops or a few more, which binds at least as strongly as a level of it (0: OR, .., 5: *).
func (d *die) sound(level, n int) string {
	if n <= 1 {
		return d.expression(1)
	}
	if level > 5 || d.n(12) == 0 {
		return "( " + d.sound(0, n) + " )"
	}
	level += d.n(6 - level)
	two := func(left, right int, signs ...string) string {
		k := 1 + d.n(max(n-2, 1))
		return d.sound(left, k) + " " + d.one(signs...) + " " + d.sound(right, n-1-k)
	}
	switch level {
	case 0:
		return two(0, 1, "OR")
	case 1:
		return two(1, 2, "AND")
	case 2:
		return "NOT " + d.sound(2, n-1)
	case 3:
		if d.n(3) == 0 {
			return d.sound(4, n-1) + d.one(" IS NULL", " IS NOT NULL")
		}
		return two(4, 4, "=", "<", ">", "<=", ">=", "<>")
	case 4:
		return two(4, 5, "+", "-")
	}
	return two(5, 6, "*")
}

// list of some things, often short.
func (d *die) list(thing func() string) string {
	s := thing()
	for range d.n(7) {
		if d.n(3) > 0 {
			s += " , " + thing()
		}
	}
	return s
}

// where of some ops, or none.
func (d *die) where(most int) string {
	if d.n(3) == 0 {
		return ""
	}
	return " WHERE " + d.expression(1+d.n(most))
}

// statement of a text.
func (d *die) statement(most int) string {
	name := func() string { return d.one("t", "u", "a2345678") }
	switch d.n(8) {
	case 0:
		return "CREATE TABLE " + name() + " ( " + d.list(func() string {
			return d.one("a", "b", "c", "d", "e", "f", "g", "h", "i", "j", "k", "l") + d.one(" INT", " TEXT", " BOOL")
		}) + " )"
	case 1:
		return "INSERT INTO " + name() + " VALUES ( " + d.list(func() string { return d.one("1", "- 2", "'x'", "NULL", "TRUE", "FALSE") }) + " )"
	case 2:
		return d.one("BEGIN", "COMMIT", "ROLLBACK", "DROP TABLE "+name())
	case 3:
		return "DELETE FROM " + name() + d.where(most)
	case 4:
		return "UPDATE " + name() + " SET " + name() + " = " + d.expression(1+d.n(most)) + d.where(most)
	}
	what := d.one("*", "COUNT ( * )", "")
	if what == "" {
		what = d.list(name)
	}
	return "SELECT " + what + " FROM " + name() + d.where(most) + d.one("", "", " ORDER BY "+name(), " ORDER BY "+name()+" DESC") + d.one("", " LIMIT 0", " LIMIT 12")
}

// spoiled tokens: one that is another one, or went, or is there once more, or stands elsewhere.
func (d *die) spoiled(l []api.Token) []api.Token {
	l = slices.Clone(l)
	at, to := d.n(len(l)), d.n(len(l))
	switch d.n(5) {
	case 0:
		return slices.Delete(l, at, at+1)
	case 1:
		return slices.Insert(l, to, l[at])
	case 2:
		l[at], l[to] = l[to], l[at]
		return l
	case 3:
		return l[:at]
	}
	x := word(d.one(keptWords...))
	switch d.n(3) {
	case 0:
		x = mark(d.one("(", ")", ",", "*", "+", "-", "=", "<", ">", "<=", ">=", "<>"))
	case 1:
		x = []api.Token{word("a23456789"), word("a"), number(5), text("x"), text(strings.Repeat("x", api.MaxText+1)), text("OR")}[d.n(6)]
	}
	l[at] = x
	return l
}

// P6.2 to P6.4: drawn statements, and such that are spoiled.
func TestDrawn(t *testing.T) {
	fit, fault := 0, 0
	for seed := range 20000 {
		d := die(seed)
		l := tokens(t, d.statement(8))
		if len(l) > api.MaxTokens {
			continue
		}
		wantWords(t, l)
		if _, _, e := parse.Parse(l); e == api.OK {
			fit++
		}
		l = d.spoiled(l)
		wantWords(t, l)
		if _, _, e := parse.Parse(l); e != api.OK {
			fault++
		}
	}
	if fit < 10000 || fault < 10000 {
		t.Error(fit, fault)
	}
}

// P6.4: drawn expressions of about MaxOps ops.
func TestDrawnMany(t *testing.T) {
	fit, full := 0, 0
	for seed := range 3000 {
		d := die(seed)
		l := tokens(t, "UPDATE t SET a = "+d.sound(0, 30+d.n(16)))
		if len(l) > api.MaxTokens {
			continue
		}
		s, e := start(), api.OK
		for i := 0; i < len(l) && e == api.OK; i++ {
			s, e = s.next(l[i])
		}
		if e != api.OK || !s.mayEnd() {
			t.Fatal(spelled(l))
		}
		s.wantSays(t, l)
		if _, _, e := parse.Parse(l); e == api.OK {
			fit++
		} else {
			full++
		}
	}
	if fit < 300 || full < 300 {
		t.Error(fit, full)
	}
}

// What is told of tokens is told of them whatever their texts are, as long as lex has them.
func TestAnyTokens(t *testing.T) {
	pool := []api.Token{{}, {Kind: 9}, word("a b"), number(-1), mark("=="), text("x"), text(strings.Repeat("x", 30)), word("SELECT"), mark("*"), word("FROM"), word("t"), mark("("), number(1), word("NOT")}
	for seed := range 5000 {
		d := die(seed)
		var l []api.Token
		for range d.n(8) {
			l = append(l, pool[d.n(len(pool))])
		}
		wrong := slices.IndexFunc(l, func(x api.Token) bool { return lex.Check(x) != api.OK })
		if wrong >= 0 {
			wantWrong(t, l, wrong, lex.Check(l[wrong]))
		} else {
			wantWords(t, l)
		}
	}
}
