package expr_test

import (
	"math"
	"math/big"
	"slices"
	"strings"
	"testing"

	"padlock/api"
	"padlock/codec"
	"padlock/parse"
)

// The words of the document, asked in another way: an expression is taken apart from its last op on, into a tree; what it
// makes is told of the tree, with numbers of any size.

// node of the tree: an op, and what it works on.
type node struct {
	api.Op
	on []*node
}

// taken: the last thing of ops, and what stands ahead of it.
func taken(l []api.Op) (*node, []api.Op) {
	n, rest := &node{Op: l[len(l)-1]}, l[:len(l)-1]
	for range needs(n.Kind) {
		var x *node
		x, rest = taken(rest)
		n.on = slices.Insert(n.on, 0, x)
	}
	return n, rest
}

// needs: on how many an op works.
func needs(kind int) int {
	switch kind {
	case api.Literal, api.Column:
		return 0
	case api.Not, api.IsNull:
		return 1
	}
	return 2
}

// kind of what a node makes.
func (n *node) kind(l []api.Col) (int, api.Errno) {
	var of []int
	for _, x := range n.on {
		k, e := x.kind(l)
		if e != api.OK {
			return 0, e
		}
		of = append(of, k)
	}
	known := slices.DeleteFunc(slices.Clone(of), func(k int) bool { return k == api.Null })
	only := func(k int) bool { return !slices.ContainsFunc(known, func(x int) bool { return x != k }) }
	makes, right := api.Bool, true
	switch n.Kind {
	case api.Literal:
		makes = n.Value.Kind
	case api.Column:
		right = false
		for _, c := range l {
			if c.Name == n.Name {
				return c.Kind, api.OK
			}
		}
		return 0, api.ErrNone
	case api.And, api.Or, api.Not:
		right = only(api.Bool)
	case api.Equal, api.Less:
		right = len(slices.Compact(known)) < 2
	case api.Add, api.Sub, api.Mul:
		makes, right = api.Int, only(api.Int)
	}
	if !right {
		return 0, api.ErrType
	}
	return makes, api.OK
}

// thing that is reckoned with: of a Bool and an Int a number, of a Text a text.
type thing struct {
	kind int
	n    *big.Int
	s    string
}

// thingOf a value.
func thingOf(v api.Value) thing { return thing{v.Kind, big.NewInt(int64(v.Int)), v.Text} }

// truths: false, not known, true.
var truths = []thing{thingOf(no), thingOf(null), thingOf(yes)}

// truth: where a thing stands among them.
func (x thing) truth() int {
	return slices.IndexFunc(truths, func(y thing) bool { return x.kind == y.kind && x.n.Cmp(y.n) == 0 })
}

// make what a node makes of a row; whether every number on the way fits.
func (n *node) make(l []api.Col, r []api.Value) (thing, bool) {
	var of []thing
	for _, x := range n.on {
		y, ok := x.make(l, r)
		if !ok {
			return y, false
		}
		of = append(of, y)
	}
	unknown := slices.ContainsFunc(of, func(x thing) bool { return x.kind == api.Null })
	switch n.Kind {
	case api.Literal:
		return thingOf(n.Value), true
	case api.Column:
		return thingOf(r[slices.IndexFunc(l, func(c api.Col) bool { return c.Name == n.Name })]), true
	case api.And:
		return truths[min(of[0].truth(), of[1].truth())], true
	case api.Or:
		return truths[max(of[0].truth(), of[1].truth())], true
	case api.Not:
		return truths[2-of[0].truth()], true
	case api.IsNull:
		return is(unknown), true
	}
	if unknown {
		return thingOf(null), true
	}
	a, b := of[0], of[1]
	order := a.n.Cmp(b.n)
	if a.kind == api.Text {
		order = strings.Compare(a.s, b.s)
	}
	out := thing{kind: api.Int, n: new(big.Int)}
	switch n.Kind {
	case api.Equal:
		return is(order == 0), true
	case api.Less:
		return is(order < 0), true
	case api.Add:
		out.n.Add(a.n, b.n)
	case api.Sub:
		out.n.Sub(a.n, b.n)
	case api.Mul:
		out.n.Mul(a.n, b.n)
	}
	return out, out.n.IsInt64()
}

// is: a truth.
func is(x bool) thing {
	if x {
		return truths[2]
	}
	return truths[0]
}

// claim: a key that is low, or high.
type claim struct {
	low bool
	key string
}

// claims of a node that must be true.
func (n *node) claims(l []api.Col) []claim {
	first := func(x *node) bool { return x.Kind == api.Column && x.Name == l[0].Name }
	value := func(x *node) bool { return x.Kind == api.Literal && x.Value.Kind != api.Null }
	told := func(x *node, of ...bool) (out []claim) {
		b, _ := codec.Encode([]api.Value{x.Value})
		for _, low := range of {
			out = append(out, claim{low, string(b)})
		}
		return out
	}
	const low, high = true, false
	switch n.Kind {
	case api.And:
		return append(n.on[0].claims(l), n.on[1].claims(l)...)
	case api.Equal, api.Less:
		a, b := n.on[0], n.on[1]
		switch {
		case n.Kind == api.Equal && first(a) && value(b):
			return told(b, low, high)
		case n.Kind == api.Equal && value(a) && first(b):
			return told(a, low, high)
		case n.Kind == api.Less && first(a) && value(b):
			return told(b, high)
		case n.Kind == api.Less && value(a) && first(b):
			return told(a, low)
		}
	case api.Not:
		if x := n.on[0]; x.Kind == api.Less {
			a, b := x.on[0], x.on[1]
			switch {
			case first(a) && value(b):
				return told(b, low)
			case value(a) && first(b):
				return told(a, high)
			}
		}
	}
	return nil
}

// bounds: the greatest that is low, the least that is high.
func bounds(l []claim) (low, high string) {
	var lows, highs []string
	for _, c := range l {
		if c.low {
			lows = append(lows, c.key)
		} else {
			highs = append(highs, c.key)
		}
	}
	if len(lows) > 0 {
		low = slices.Max(lows)
	}
	if len(highs) > 0 {
		high = slices.Min(highs)
	}
	return low, high
}

// wantWords: all calls answer as the document's words have it; of rows and columns that may be.
func wantWords(t *testing.T, l []api.Col, rows [][]api.Value, o []api.Op) {
	t.Helper()
	var whole *node
	kind, e := 0, parse.Expression(o)
	if e == api.OK {
		whole, _ = taken(o)
		kind, e = whole.kind(l)
	}
	wantKind(t, l, o, kind, e)
	low, high, f := "", "", e
	switch {
	case len(o) == 0:
		f = api.OK
	case e == api.OK && kind != api.Bool && kind != api.Null:
		f = api.ErrType
	case e == api.OK:
		low, high = bounds(whole.claims(l))
	}
	wantBounds(t, l, o, []byte(low), []byte(high), f)
	for _, r := range rows {
		if e != api.OK {
			wantEval(t, l, r, o, null, e)
			continue
		}
		x, ok := whole.make(l, r)
		if !ok {
			wantEval(t, l, r, o, null, api.ErrOver)
			continue
		}
		v := api.Value{Kind: x.kind, Int: int(x.n.Int64()), Text: x.s}
		wantEval(t, l, r, o, v, api.OK)
		at := string(key(r[0]))
		if f == api.OK && v == yes && (at < low || high != "" && at > high) { // what comes of it
			t.Errorf("%v is true of %v, but its bounds are %v, %v", o, r, []byte(low), []byte(high))
		}
	}
}

// lists of such ops, of so many.
func lists(alphabet []api.Op, n int) [][]api.Op {
	if n == 0 {
		return [][]api.Op{nil}
	}
	var out [][]api.Op
	for _, l := range lists(alphabet, n-1) {
		for _, o := range alphabet {
			out = append(out, append(slices.Clone(l), o))
		}
	}
	return out
}

// expressions of so many of such ops: by their number.
func expressions(alphabet []api.Op, most int) [][][]api.Op {
	all := [][][]api.Op{nil}
	for n := 1; n <= most; n++ {
		var l [][]api.Op
		for _, o := range alphabet {
			switch needs(o.Kind) {
			case 0:
				if n == 1 {
					l = append(l, ops(o))
				}
			case 1:
				for _, x := range all[n-1] {
					l = append(l, after(x, ops(o)))
				}
			case 2:
				for k := 1; k < n-1; k++ {
					for _, x := range all[k] {
						for _, y := range all[n-1-k] {
							l = append(l, after(x, y, ops(o)))
						}
					}
				}
			}
		}
		all = append(all, l)
	}
	return all
}

// each op that is no Literal and no Column.
func each() (l []api.Op) {
	for kind := api.And; kind <= api.IsNull; kind++ {
		l = append(l, op(kind))
	}
	return l
}

// some rows of the table.
func some() [][]api.Value {
	return [][]api.Value{
		usual(), row(num(math.MaxInt), num(math.MinInt), null, null), row(num(0), null, str(""), no), row(num(1), num(1), str("a\x00"), yes),
	}
}

// All short lists of ops, expressions or not.
func TestAllLists(t *testing.T) {
	alphabet := append(each(), literal(null), literal(num(1)), column("id"), column("s"), column("x"), op(0), literal(num(math.MinInt)))
	for n := range 4 {
		for _, l := range lists(alphabet, n) {
			wantWords(t, table(), some()[:1], l)
		}
	}
}

// All short expressions.
func TestAllExpressions(t *testing.T) {
	alphabet := append(each(), literal(null), literal(yes), literal(num(-1)), literal(str("a")), column("id"), column("n"), column("s"), column("b"), column("x"))
	for _, l := range expressions(alphabet, 4) {
		for _, o := range l {
			wantWords(t, table(), some(), o)
		}
	}
}

// All expressions of some comparisons of the first column, with ops between truths.
func TestAllBounds(t *testing.T) {
	alphabet := ops(op(api.And), op(api.Or), op(api.Not), op(api.Equal), op(api.Less), literal(num(1)), literal(num(3)), column("id"), column("n"))
	var rows [][]api.Value
	for n := range 5 {
		rows = append(rows, row(num(n), num(2), null, null))
	}
	for _, l := range expressions(alphabet, 6) {
		for _, o := range l {
			if kindError(table(), o) == api.OK {
				wantWords(t, table(), rows, o)
			}
		}
	}
}

// die: numbers that look drawn, the same each time.
type die uint64

func (d *die) n(most int) int {
	*d = *d*6364136223846793005 + 1442695040888963407
	return int(uint64(*d>>33) % uint64(most))
}

// numbers that are drawn: small ones, great ones, and those that a byte or a product just holds.
var numbers = []int{-257, -256, -255, -2, -1, 0, 1, 2, 3, 4, 255, 256, 257, 3037000499, 3037000500, math.MaxInt - 1, math.MaxInt, -math.MaxInt}

// text of a few bytes.
func (d *die) text() string {
	b := make([]byte, d.n(4))
	for i := range b {
		b[i] = []byte{0, 1, 'a', 'b', 255}[d.n(5)]
	}
	return string(b)
}

// value of a kind, now and then Null.
func (d *die) value(kind int) api.Value {
	if d.n(8) == 0 {
		return null
	}
	switch kind {
	case api.Bool:
		return api.Value{Kind: kind, Int: d.n(2)}
	case api.Int:
		return num(numbers[d.n(len(numbers))])
	}
	return str(d.text())
}

// made: an expression that makes such a kind of such columns, in most cases.
func (d *die) made(l []api.Col, kind, depth int) []api.Op {
	if d.n(40) == 0 {
		kind = 1 + d.n(3)
	}
	if depth == 0 || kind == api.Text || d.n(6) == 0 {
		if c := l[d.n(len(l))]; c.Kind == kind && d.n(3) > 0 {
			return ops(column(c.Name))
		}
		return ops(literal(d.value(kind)))
	}
	if kind == api.Int {
		return after(d.made(l, api.Int, depth-1), d.made(l, api.Int, depth-1), ops(op(api.Add+d.n(3))))
	}
	switch d.n(8) {
	case 0:
		return after(d.made(l, api.Bool, depth-1), ops(op(api.Not)))
	case 1:
		return after(d.made(l, 1+d.n(3), depth-1), ops(op(api.IsNull)))
	case 2, 3:
		return after(d.made(l, api.Bool, depth-1), d.made(l, api.Bool, depth-1), ops(op(api.And+d.n(2))))
	case 4, 5:
		return d.compared(l)
	}
	of := 1 + d.n(3)
	return after(d.made(l, of, depth-1), d.made(l, of, depth-1), ops(op(api.Equal+d.n(2))))
}

// compared: the first column and a literal.
func (d *die) compared(l []api.Col) []api.Op {
	a, b := ops(column(l[0].Name)), ops(literal(d.value(l[0].Kind)))
	if d.n(2) == 0 {
		a, b = b, a
	}
	o := after(a, b, ops(op(api.Equal+d.n(2))))
	if d.n(2) == 0 {
		o = append(o, op(api.Not))
	}
	return o
}

// narrowed: some comparisons of the first column that must all be true, in any nesting.
func (d *die) narrowed(l []api.Col, n int) []api.Op {
	if n > 1 {
		k := 1 + d.n(n-1)
		return after(d.narrowed(l, k), d.narrowed(l, n-k), ops(op(api.And)))
	}
	if d.n(4) == 0 {
		return d.made(l, api.Bool, 1)
	}
	return d.compared(l)
}

// drawn expressions over drawn columns and rows.
func TestDrawn(t *testing.T) {
	for seed := range 30000 {
		d := die(seed)
		var l []api.Col
		for _, name := range []string{"a", "b", "c", "d"}[d.n(4):] {
			l = append(l, col(name, 1+d.n(3)))
		}
		var rows [][]api.Value
		for range 4 {
			var r []api.Value
			for _, c := range l {
				r = append(r, d.value(c.Kind))
			}
			if r[0] != null {
				rows = append(rows, r)
			}
		}
		o := d.made(l, 1+d.n(3), d.n(5))
		if d.n(2) == 0 {
			o = d.narrowed(l, 1+d.n(5))
		}
		if d.n(20) == 0 { // one op is another one
			o[d.n(len(o))] = []api.Op{op(d.n(13)), column("z"), literal(d.value(1 + d.n(3)))}[d.n(3)]
		}
		wantWords(t, l, rows, o)
	}
}
