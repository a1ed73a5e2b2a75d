package parse

import (
	"slices"
	"strings"

	"padlock/api"
)

// signs of ops that stand between what they work on.
var signs = [...]string{
	api.And: "AND", api.Or: "OR", api.Equal: "=", api.Less: "<", api.Add: "+", api.Sub: "-", api.Mul: "*",
}

// comparisons: the op of two sums that each sign stands for; of the second one and the first one, if it is turned; with
// a Not behind it, if it is not so.
var comparisons = [...]struct {
	sign        string
	kind        int
	turned, not bool
}{
	{"=", api.Equal, false, false},
	{"<>", api.Equal, false, true},
	{"<", api.Less, false, false},
	{">=", api.Less, false, true},
	{">", api.Less, true, false},
	{"<=", api.Less, true, true},
}

// constants: literals that are words.
var constants = [...]struct {
	word  string
	value api.Value
}{
	{"NULL", api.Value{}},
	{"FALSE", api.Value{Kind: api.Bool}},
	{"TRUE", api.Value{Kind: api.Bool, Int: 1}},
}

// expression as its ops.
func (r *reader) expression() []api.Op {
	r.ops = nil
	r.either()
	return r.ops
}

// put an op behind the others. What it works on, and what it is told by, ends ahead of the token whose turn it is.
func (r *reader) put(o api.Op) {
	if len(r.ops) == api.MaxOps {
		r.giveBack(api.ErrFull)
	}
	r.ops = append(r.ops, o)
}

// either: what binds weakest.
func (r *reader) either() { r.chain(r.both, api.Or) }

// both: things with AND between.
func (r *reader) both() { r.chain(r.denied, api.And) }

// sum: products with + and - between.
func (r *reader) sum() { r.chain(r.product, api.Add, api.Sub) }

// product: what binds strongest, with * between.
func (r *reader) product() { r.chain(r.thing, api.Mul) }

// chain: things with the signs of such ops between, from left to right.
func (r *reader) chain(thing func(), kinds ...int) {
	thing()
	for kind, ok := r.sign(kinds); ok; kind, ok = r.sign(kinds) {
		thing()
		r.put(api.Op{Kind: kind})
	}
}

// sign of an op of one of these kinds, if there is one.
func (r *reader) sign(kinds []int) (int, bool) {
	for _, kind := range kinds {
		if r.may(signs[kind]) {
			return kind, true
		}
	}
	return 0, false
}

// denied: a comparison, perhaps behind a NOT or more.
func (r *reader) denied() {
	if r.may("NOT") {
		r.denied()
		r.put(api.Op{Kind: api.Not})
		return
	}
	r.comparison()
}

// comparison of two sums, or a sum alone, perhaps with IS NULL behind it.
func (r *reader) comparison() {
	first := len(r.ops)
	r.sum()
	if r.may("IS") {
		not := r.may("NOT")
		r.must("NULL")
		r.compare(api.IsNull, not)
		return
	}
	for _, c := range comparisons {
		if !r.may(c.sign) {
			continue
		}
		second := len(r.ops)
		r.sum()
		if c.turned {
			r.ops = slices.Concat(r.ops[:first], r.ops[second:], r.ops[first:second])
		}
		r.compare(c.kind, c.not)
		return
	}
}

// compare: the op of a comparison, or whether it does not hold.
func (r *reader) compare(kind int, not bool) {
	r.put(api.Op{Kind: kind})
	if not {
		r.put(api.Op{Kind: api.Not})
	}
}

// thing: what binds strongest: a literal, a name, or an expression in brackets.
func (r *reader) thing() {
	if r.may("(") {
		r.either()
		r.must(")")
		return
	}
	if v, ok := r.literal(); ok {
		r.put(api.Op{Kind: api.Literal, Value: v})
		return
	}
	r.put(api.Op{Kind: api.Column, Name: r.name()})
}

// literal, if there is one.
func (r *reader) literal() (api.Value, bool) {
	for _, c := range constants {
		if r.may(c.word) {
			return c.value, true
		}
	}
	if r.may("-") {
		return api.Value{Kind: api.Int, Int: -r.number()}, true
	}
	t := r.now()
	switch t.Kind {
	case api.Number:
		return api.Value{Kind: api.Int, Int: r.number()}, true
	case api.String:
		if len(t.Text) > api.MaxText {
			r.giveUp(api.ErrSize)
		}
		r.at++
		return api.Value{Kind: api.Text, Text: strings.Clone(t.Text)}, true
	}
	return api.Value{}, false
}
