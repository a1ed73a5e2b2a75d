package session_test

import (
	"fmt"
	"slices"
	"strconv"
	"strings"
	"testing"

	"padlock/api"
	"padlock/base"
	"padlock/lex"
	"padlock/parse"
	"padlock/session"
)

// What the tests of this package are told in: sessions behind one that makes ready, and replies as lines.

// read a statement that can be read.
func read(s string) api.Statement {
	l, _, e := lex.Cut(s)
	if e != api.OK {
		panic(s)
	}
	x, _, e := parse.Parse(l)
	if e != api.OK {
		panic(s)
	}
	return x
}

// after some statements, none of which is refused.
func after(t *testing.T, b api.Base, l ...string) api.Base {
	t.Helper()
	for _, s := range l {
		x, _, e := base.Run(b, read(s))
		if e != api.OK {
			t.Fatalf("%s: %d", s, e)
		}
		b = x
	}
	return b
}

// script of a session: statements with ; between them.
func script(s string) []string {
	if s == "" {
		return nil
	}
	return strings.Split(s, "; ")
}

// picks of sessions: one, and how many times; another one, and so on.
func picks(l ...int) []int {
	var p []int
	for ; len(l) > 0; l = l[2:] {
		p = append(p, slices.Repeat(l[:1], l[1])...)
	}
	return p
}

// usual: what makes ready for most of these tests.
func usual() []string {
	return script("CREATE TABLE t (id INT, n INT); INSERT INTO t VALUES (10, 1); INSERT INTO t VALUES (20, 2); INSERT INTO t VALUES (30, 3); INSERT INTO t VALUES (40, 4); INSERT INTO t VALUES (50, 5)")
}

// played: what came of some sessions. Session 0 has made ready ahead of them, so that they are counted from 1 on; and so are
// the transactions that are theirs.
type played struct {
	t     *testing.T
	o     api.Outcome
	ready int
}

// play some sessions, once session 0 has made ready.
func play(t *testing.T, ready []string, p []int, scripts ...string) played {
	t.Helper()
	l := [][]string{ready}
	for _, s := range scripts {
		l = append(l, script(s))
	}
	o, e := session.Run(l, slices.Concat(picks(0, 6*len(ready)), p))
	if e != api.OK || len(o.Replies) != len(l) {
		t.Fatalf("%q: %v, %d", l, o, e)
	}
	for i, r := range o.Replies[0] {
		if r.Code != api.OK || r.Txn != i+1 {
			t.Fatalf("%s: %v", ready[i], r)
		}
	}
	for i := range l {
		if len(o.Replies[i]) != len(l[i]) {
			t.Errorf("session %d was told %d things of %d statements", i, len(o.Replies[i]), len(l[i]))
		}
	}
	return played{t, o, len(ready)}
}

// codes, as lines tell them.
var codes = []string{
	"OK", "ErrSize", "ErrKind", "ErrRange", "ErrType", "ErrOver", "ErrForm", "ErrShort", "ErrNone", "ErrTwice", "ErrFull", "ErrState", "ErrDead",
}

// value, as a line tells it.
func value(v api.Value) string {
	switch v.Kind {
	case api.Bool:
		return []string{"FALSE", "TRUE"}[v.Int]
	case api.Int:
		return strconv.Itoa(v.Int)
	case api.Text:
		return "'" + v.Text + "'"
	}
	return "NULL"
}

// values of a row, likewise.
func values(r []api.Value) string {
	var l []string
	for _, v := range r {
		l = append(l, value(v))
	}
	return strings.Join(l, " ")
}

// said: a reply as a line tells it: the transaction (-: none), the code, the Count if it is not 0, and rows.
func (p played) said(r api.Reply) string {
	s := "- "
	if r.Txn != 0 {
		s = strconv.Itoa(r.Txn-p.ready) + " "
	}
	s += codes[r.Code]
	if r.Result.Count != 0 {
		s += " " + strconv.Itoa(r.Result.Count)
	}
	for _, row := range r.Result.Rows {
		s += " (" + values(row) + ")"
	}
	return s
}

// told: want what a session was told, with ; between.
func (p played) told(session int, want string) {
	p.t.Helper()
	var l []string
	for _, r := range p.o.Replies[session] {
		l = append(l, p.said(r))
	}
	if s := strings.Join(l, "; "); s != want {
		p.t.Errorf("session %d: %s\nwant %s", session, s, want)
	}
}

// commits: want these, in that order.
func (p played) commits(want ...int) {
	p.t.Helper()
	var l []int
	for i, txn := range p.o.Commits {
		if i >= p.ready {
			l = append(l, txn-p.ready)
		} else if txn != i+1 {
			p.t.Errorf("commits: %v", p.o.Commits)
		}
	}
	if !slices.Equal(l, want) {
		p.t.Errorf("commits: %v, want %v", l, want)
	}
}

// rows: want these in the slots of a table, - for an empty one.
func (p played) rows(name, want string) {
	p.t.Helper()
	at := slices.IndexFunc(p.o.Base.Tables, func(x api.Table) bool { return x.Name == name })
	if at < 0 {
		p.t.Errorf("no table %s", name)
		return
	}
	var l []string
	for _, r := range p.o.Base.Tables[at].Rows {
		if len(r) == 0 {
			l = append(l, "-")
		} else {
			l = append(l, values(r))
		}
	}
	if s := strings.Join(l, "; "); s != want {
		p.t.Errorf("%s: %s\nwant %s", name, s, want)
	}
}

// tables: want these names, in that order.
func (p played) tables(want string) {
	p.t.Helper()
	var l []string
	for _, x := range p.o.Base.Tables {
		l = append(l, x.Name)
	}
	if s := strings.Join(l, " "); s != want {
		p.t.Errorf("tables: %s, want %s", s, want)
	}
}

// base: want this one, pages of trees and all.
func (p played) base(want api.Base) {
	p.t.Helper()
	if is, was := show(p.o.Base), show(want); is != was {
		p.t.Errorf("base: %s\nwant %s", is, was)
	}
}

// show anything, where no list is told apart from an empty one.
func show(x any) string { return strings.ReplaceAll(fmt.Sprint(x), "<nil>", "[]") }

// steps: after how many of its own steps has a session done all its script? Another one begins behind so many steps, and its
// number tells whether the first one has begun one more ahead of it.
func steps(t *testing.T, ready []string, s string) int {
	t.Helper()
	for n := range 200 {
		p := play(t, ready, picks(1, n, 2, 1, 1, 200, 2, 200), s+"; BEGIN", "BEGIN")
		one, other := p.o.Replies[1], p.o.Replies[2]
		if one[len(one)-1].Txn < other[0].Txn {
			return n - 1
		}
	}
	t.Fatal(s)
	return 0
}
