package session_test

import (
	"iter"
	"slices"

	"padlock/api"
	"padlock/base"
	"padlock/codec"
	"padlock/lex"
	"padlock/lock"
	"padlock/need"
	"padlock/parse"
	"padlock/tree"
)

// The words of the document, asked in another way: a session is told as it goes, from its first statement to its last one,
// and is taken up again at each of its steps; locks stand in one list each, and rounds are found by who waits for whom in the
// end; each statement keeps the base ahead of it and that behind it, and is undone by these.

// player: a session.
type player struct {
	script []string
	told   []api.Reply
	txn    int
	waits  bool
	dead   bool // its statement is over, since it was in a round
	did    []event
}

// event: a statement that was done.
type event struct {
	s        api.Statement
	was, now api.Base
}

// model of sessions.
type model struct {
	players     []*player
	base        api.Base
	held, queue []api.Lock
	begun       int
	commits     []int
	dead, full  int // how many statements were told so
	undone      int // how many were
	waited      int // how many locks were waited for
}

// modelled: what comes of sessions.
func modelled(scripts [][]string, p []int) (*model, api.Outcome) {
	m := &model{}
	var next []func() (bool, bool)
	for _, l := range scripts {
		x := &player{script: l}
		m.players = append(m.players, x)
		n, stop := iter.Pull(m.play(x))
		defer stop()
		next = append(next, n)
	}
	for _, at := range p {
		next[at]()
	}
	goesOn := func(x *player) bool { return len(x.told) < len(x.script) || x.txn > 0 }
	for slices.ContainsFunc(m.players, goesOn) {
		for _, n := range next {
			n()
		}
	}
	o := api.Outcome{Commits: m.commits, Base: m.base}
	for _, x := range m.players {
		o.Replies = append(o.Replies, x.told)
	}
	return m, o
}

// play a session: it yields behind each of its steps.
func (m *model) play(x *player) iter.Seq[bool] {
	return func(yield func(bool) bool) {
		rest := func() { yield(true) }
		for _, source := range x.script {
			if m.statement(x, source, rest) {
				rest()
			}
		}
		if x.txn > 0 {
			m.giveUp(x)
		}
		for yield(true) {
		}
	}
}

// statement of a session; where it goes on with a later step, rest comes between. Has it ended by a step of this session?
func (m *model) statement(x *player, source string, rest func()) bool {
	s := api.Statement{}
	l, _, e := lex.Cut(source)
	if e == api.OK {
		s, _, e = parse.Parse(l)
	}
	if e == api.OK {
		e = parse.Check(s)
	}
	open := x.txn > 0
	if e == api.OK && (s.Kind == api.Begin && open || s.Kind > api.Begin && !open) {
		e = api.ErrState
	}
	if e != api.OK {
		m.say(x, e, api.Result{})
		return true
	}
	if !open {
		m.begun++
		x.txn = m.begun
	}
	if s.Kind < api.Begin {
		return m.locked(x, s, open, rest)
	}
	m.say(x, api.OK, api.Result{})
	if s.Kind == api.Commit {
		m.commit(x)
	}
	if s.Kind == api.Rollback {
		m.giveUp(x)
	}
	return true
}

// locked: a session gets the locks for its statement, one a step, and does it then.
func (m *model) locked(x *player, s api.Statement, open bool, rest func()) bool {
	x.dead = false
	for {
		lacks := api.Need{}
		needs, _ := need.Needs(m.base, s)
		for _, n := range slices.Backward(needs) {
			if mode := m.mode(x.txn, n.Thing); join(mode, n.Mode) != mode {
				lacks = n
			}
		}
		if lacks.Mode == 0 {
			m.do(x, s, open)
			return true
		}
		if !m.ask(x, lacks) {
			m.say(x, api.ErrFull, api.Result{})
			m.full++
			m.giveUp(x)
			return true
		}
		m.killRounds()
		if x.dead {
			return true
		}
		rest()
		for x.waits {
			rest()
		}
		if x.dead { // by another one's step: the next statement stands at this one
			return false
		}
	}
}

// join two modes, of which one may be none.
func join(a, b int) int {
	if a == 0 {
		return b
	}
	mode, e := lock.Join(a, b)
	if e != api.OK {
		panic(e)
	}
	return mode
}

// mode in which a transaction holds a thing.
func (m *model) mode(txn int, thing string) int {
	for _, l := range m.held {
		if l.Txn == txn && l.Thing == thing {
			return l.Mode
		}
	}
	return 0
}

// blockers: for whom one waits who wants a lock, behind others in the queue.
func (m *model) blockers(x api.Lock, ahead []api.Lock) map[int]bool {
	l := map[int]bool{}
	for _, h := range m.held {
		if fits, _ := lock.Fits(h.Mode, x.Mode); h.Thing == x.Thing && h.Txn != x.Txn && !fits {
			l[h.Txn] = true
		}
	}
	for _, q := range ahead {
		if q.Thing == x.Thing && m.mode(x.Txn, x.Thing) == 0 {
			l[q.Txn] = true
		}
	}
	return l
}

// ask for a lock; false: there are as many as may be.
func (m *model) ask(x *player, n api.Need) bool {
	l := api.Lock{Txn: x.txn, Thing: n.Thing, Mode: join(m.mode(x.txn, n.Thing), n.Mode)}
	x.waits = len(m.blockers(l, m.queue)) > 0
	if x.waits {
		m.queue = append(m.queue, l)
		m.waited++
	} else {
		m.hold(l)
	}
	return len(m.held)+len(m.queue) <= api.MaxHeld
}

// hold a lock, in place of another one or behind all.
func (m *model) hold(l api.Lock) {
	for i, h := range m.held {
		if h.Txn == l.Txn && h.Thing == l.Thing {
			m.held[i] = l
			return
		}
	}
	m.held = append(m.held, l)
}

// killRounds: the greatest that waits for itself, as long as there is one.
func (m *model) killRounds() {
	for {
		n := len(m.players)
		waits := make([][api.MaxSessions]bool, n)
		for i, q := range m.queue {
			l := m.blockers(q, m.queue[:i])
			for b, y := range m.players {
				waits[m.playing(q.Txn)][b] = waits[m.playing(q.Txn)][b] || l[y.txn]
			}
		}
		for via := range n {
			for a := range n {
				for b := range n {
					waits[a][b] = waits[a][b] || waits[a][via] && waits[via][b]
				}
			}
		}
		victim := &player{}
		for i, x := range m.players {
			if waits[i][i] && x.txn > victim.txn {
				victim = x
			}
		}
		if victim.txn == 0 {
			return
		}
		m.say(victim, api.ErrDead, api.Result{})
		m.dead++
		m.giveUp(victim)
		victim.dead = true
	}
}

// playing: whose transaction it is.
func (m *model) playing(txn int) int {
	return slices.IndexFunc(m.players, func(x *player) bool { return x.txn == txn })
}

// do a statement.
func (m *model) do(x *player, s api.Statement, open bool) {
	now, r, e := base.Run(m.base, s)
	m.say(x, e, r)
	switch {
	case e == api.ErrFull:
		m.full++
		m.giveUp(x)
		return
	case e == api.OK:
		x.did = append(x.did, event{s, m.base, now})
		m.base = now
	}
	if !open {
		m.commit(x)
	}
}

// say something to a session.
func (m *model) say(x *player, e api.Errno, r api.Result) {
	x.told = append(x.told, api.Reply{Txn: x.txn, Code: e, Result: r})
}

// commit a transaction.
func (m *model) commit(x *player) {
	m.commits = append(m.commits, x.txn)
	m.leave(x)
}

// giveUp a transaction.
func (m *model) giveUp(x *player) {
	for len(x.did) > 0 {
		last := x.did[len(x.did)-1]
		x.did = x.did[:len(x.did)-1]
		m.undo(last)
		m.undone++
	}
	m.leave(x)
}

// leave: the locks of a transaction go.
func (m *model) leave(x *player) {
	of := func(l api.Lock) bool { return l.Txn == x.txn }
	m.held, m.queue = slices.DeleteFunc(m.held, of), slices.DeleteFunc(m.queue, of)
	for i := 0; i < len(m.queue); i++ {
		if l := m.queue[i]; len(m.blockers(l, m.queue[:i])) == 0 {
			m.queue = slices.Delete(m.queue, i, i+1)
			m.hold(l)
			m.players[m.playing(l.Txn)].waits = false
			i = -1
		}
	}
	x.txn, x.waits, x.did = 0, false, nil
}

// undo what a statement did: by the bases ahead of it and behind it.
func (m *model) undo(v event) {
	at := func(b api.Base) int {
		return slices.IndexFunc(b.Tables, func(x api.Table) bool { return x.Name == v.s.Table })
	}
	switch v.s.Kind {
	case api.Create:
		m.base.Tables = slices.Delete(slices.Clone(m.base.Tables), at(m.base), at(m.base)+1)
		return
	case api.Drop:
		m.base.Tables = slices.Insert(slices.Clone(m.base.Tables), at(v.was), v.was.Tables[at(v.was)])
		return
	}
	was, behind := v.was.Tables[at(v.was)].Rows, v.now.Tables[at(v.now)].Rows
	x := m.base.Tables[at(m.base)]
	x.Rows = slices.Clone(x.Rows)
	changed := false
	for i, r := range behind {
		before := []api.Value(nil)
		if i < len(was) {
			before = was[i]
		}
		if i >= len(was) || !slices.Equal(r, before) {
			x.Rows[i], changed = before, true
		}
	}
	if !changed {
		return
	}
	x.Index = tree.New()
	for i, r := range x.Rows {
		if len(r) > 0 {
			k, _ := codec.Encode(r[:1])
			x.Index, _ = tree.Insert(x.Index, k, i)
		}
	}
	m.base.Tables = slices.Clone(m.base.Tables)
	m.base.Tables[at(m.base)] = x
}
