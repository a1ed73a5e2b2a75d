package parse

import (
	"slices"
	"strings"

	"padlock/api"
	"padlock/lex"
)

// Show a statement as tokens.
func Show(s api.Statement) ([]api.Token, api.Errno) {
	if e := Check(s); e != api.OK {
		return nil, e
	}
	return show(s), api.OK
}

// show a statement whose parts may be.
func show(s api.Statement) []api.Token {
	switch s.Kind {
	case api.Create:
		return slices.Concat(plain("CREATE", "TABLE", s.Table, "("), between(s.Cols, showCol), plain(")"))
	case api.Drop:
		return plain("DROP", "TABLE", s.Table)
	case api.Insert:
		return slices.Concat(plain("INSERT", "INTO", s.Table, "VALUES", "("), between(s.Row, showValue), plain(")"))
	case api.Select:
		return showSelect(s)
	case api.Update:
		return slices.Concat(plain("UPDATE", s.Table, "SET", s.Set, "="), showExpression(s.To), showWhere(s.Where))
	case api.Delete:
		return slices.Concat(plain("DELETE", "FROM", s.Table), showWhere(s.Where))
	case api.Begin:
		return plain("BEGIN")
	case api.Commit:
		return plain("COMMIT")
	}
	return plain("ROLLBACK")
}

// plain: words and marks.
func plain(texts ...string) []api.Token {
	var l []api.Token
	for _, text := range texts {
		t := api.Token{Kind: api.Word, Text: strings.Clone(text)}
		if lex.Check(t) != api.OK {
			t.Kind = api.Mark
		}
		l = append(l, t)
	}
	return l
}

// between each two of some things a comma.
func between[T any](things []T, show func(T) []api.Token) []api.Token {
	var l []api.Token
	for i, x := range things {
		if i > 0 {
			l = append(l, plain(",")...)
		}
		l = append(l, show(x)...)
	}
	return l
}

// showCol: a column and its kind.
func showCol(c api.Col) []api.Token { return plain(c.Name, kinds[c.Kind]) }

// showName of a column.
func showName(name string) []api.Token { return plain(name) }

// showValue as a literal.
func showValue(v api.Value) []api.Token {
	switch {
	case v.Kind == api.Text:
		return []api.Token{{Kind: api.String, Text: strings.Clone(v.Text)}}
	case v.Kind == api.Int && v.Int < 0:
		return append(plain("-"), api.Token{Kind: api.Number, Int: -v.Int})
	case v.Kind == api.Int:
		return []api.Token{{Kind: api.Number, Int: v.Int}}
	}
	word := ""
	for _, c := range constants {
		if c.value == v {
			word = c.word
		}
	}
	return plain(word)
}

// showSelect: a Select.
func showSelect(s api.Statement) []api.Token {
	l := plain("SELECT")
	switch {
	case s.Count:
		l = append(l, plain("COUNT", "(", "*", ")")...)
	case len(s.Names) == 0:
		l = append(l, plain("*")...)
	}
	l = slices.Concat(l, between(s.Names, showName), plain("FROM", s.Table), showWhere(s.Where))
	if s.Order != "" {
		l = append(l, plain("ORDER", "BY", s.Order)...)
	}
	if s.Down {
		l = append(l, plain("DESC")...)
	}
	if s.Limit >= 0 {
		l = append(l, plain("LIMIT")...)
		l = append(l, api.Token{Kind: api.Number, Int: s.Limit})
	}
	return l
}

// showWhere, if there is one.
func showWhere(l []api.Op) []api.Token {
	if len(l) == 0 {
		return nil
	}
	return append(plain("WHERE"), showExpression(l)...)
}

// showExpression: each op is shown around what it works on.
func showExpression(l []api.Op) []api.Token {
	var stack [][]api.Token
	for _, o := range l {
		n := len(stack) - worksOn[o.Kind]
		stack = append(stack[:n], showOp(o, stack[n:]))
	}
	return stack[0]
}

// showOp, with what it works on.
func showOp(o api.Op, on [][]api.Token) []api.Token {
	switch o.Kind {
	case api.Literal:
		return showValue(o.Value)
	case api.Column:
		return plain(o.Name)
	case api.Not:
		return slices.Concat(plain("(", "NOT"), on[0], plain(")"))
	case api.IsNull:
		return slices.Concat(plain("("), on[0], plain("IS", "NULL", ")"))
	}
	return slices.Concat(plain("("), on[0], plain(signs[o.Kind]), on[1], plain(")"))
}
