package lock_test

import (
	"slices"
	"testing"

	"padlock/api"
	"padlock/lock"
)

// die: numbers that look drawn, the same each time.
type die uint64

func (d *die) n(most int) int {
	*d = *d*6364136223846793005 + 1442695040888963407
	return int(uint64(*d>>33) % uint64(most))
}

// draw a lock.
func (d *die) lock(txns int, things string) api.Lock {
	at := d.n(len(things))
	return api.Lock{Txn: 1 + d.n(txns), Thing: things[at : at+1], Mode: 1 + d.n(api.X)}
}

// ask: the words of P4.5, for one that does not stand in the queue.
func ask(l api.Locks, x api.Lock) (api.Locks, bool) {
	l = api.Locks{Held: slices.Clone(l.Held), Queue: slices.Clone(l.Queue)}
	for _, h := range l.Held {
		if h.Txn == x.Txn && h.Thing == x.Thing {
			x.Mode, _ = lock.Join(x.Mode, h.Mode)
			if x.Mode == h.Mode {
				return l, true
			}
		}
	}
	l.Queue = append(l.Queue, x)
	if len(waitsFor(l, len(l.Queue)-1)) > 0 {
		return l, false
	}
	return take(l, len(l.Queue)-1), true
}

// take: the one at a place of the queue has what it wants.
func take(l api.Locks, place int) api.Locks {
	x := l.Queue[place]
	out := api.Locks{Queue: slices.Concat(l.Queue[:place], l.Queue[place+1:])}
	found := false
	for _, h := range l.Held {
		if h.Txn == x.Txn && h.Thing == x.Thing {
			h, found = x, true
		}
		out.Held = append(out.Held, h)
	}
	if !found {
		out.Held = append(out.Held, x)
	}
	return out
}

// leave: the words of P4.7.
func leave(l api.Locks, txn int) (api.Locks, []int) {
	var out api.Locks
	for _, x := range l.Held {
		if x.Txn != txn {
			out.Held = append(out.Held, x)
		}
	}
	for _, x := range l.Queue {
		if x.Txn != txn {
			out.Queue = append(out.Queue, x)
		}
	}
	var have []int
	for i := 0; i < len(out.Queue); i++ {
		if len(waitsFor(out, i)) == 0 {
			have = append(have, out.Queue[i].Txn)
			out, i = take(out, i), -1
		}
	}
	return out, have
}

// victim: the words of P4.8, for transactions up to 20.
func victim(l api.Locks) int {
	var reach [21][21]bool
	for i, x := range l.Queue {
		for _, other := range waitsFor(l, i) {
			reach[x.Txn][other] = true
		}
	}
	for b := range reach {
		for a := range reach {
			for c := range reach {
				reach[a][c] = reach[a][c] || reach[a][b] && reach[b][c]
			}
		}
	}
	for txn := len(reach) - 1; txn > 0; txn-- {
		if reach[txn][txn] {
			return txn
		}
	}
	return 0
}

// P4.4 to P4.8: drawn ones, held against the words of the document.
func TestDrawn(t *testing.T) {
	for seed := range 60 {
		d := die(seed)
		txns, things := 2+d.n(19), "abcdefgh"[:1+d.n(8)]
		var l api.Locks
		for range 150 {
			x := d.lock(txns, things)
			y, has, e := lock.Ask(l, x)
			switch queued := slices.ContainsFunc(l.Queue, func(q api.Lock) bool { return q.Txn == x.Txn }); {
			case queued && e != api.ErrTwice:
				t.Fatalf("Ask(%v, %v) = %v, %v, %d", l, x, y, has, e)
			case !queued:
				if z, should := ask(l, x); !same(y, z) || has != should || e != api.OK {
					t.Fatalf("Ask(%v, %v) = %v, %v, %d, want %v, %v", l, x, y, has, e, z, should)
				}
				l = y
			}
			wantWords(t, l)
			txn := 1 + d.n(txns)
			y, have, e := lock.Leave(l, txn)
			z, should := leave(l, txn)
			if !same(y, z) || !same(have, should) || e != api.OK {
				t.Fatalf("Leave(%v, %d) = %v, %v, %d, want %v, %v", l, txn, y, have, e, z, should)
			}
			if d.n(8) == 0 {
				l = y
			}
		}
	}
}

// wantWords: Check, Waits and Victim say of locks that may be what the document says.
func wantWords(t *testing.T, l api.Locks) {
	t.Helper()
	if e := lock.Check(l); e != api.OK || !mayBe(l) {
		t.Fatalf("Check(%v) = %d", l, e)
	}
	waits := make([][]int, len(l.Queue))
	for i := range l.Queue {
		waits[i] = waitsFor(l, i)
	}
	if w, e := lock.Waits(l); !same(w, waits) || e != api.OK {
		t.Fatalf("Waits(%v) = %v, %d, want %v", l, w, e, waits)
	}
	if v, e := lock.Victim(l); v != victim(l) || e != api.OK {
		t.Fatalf("Victim(%v) = %d, %d, want %d", l, v, e, victim(l))
	}
}

// What comes of it: nobody waits for ever, if victims leave, and those who have leave in the end.
func TestNobodyWaitsForEver(t *testing.T) {
	for seed := range 60 {
		d := die(seed + 1000)
		txns, things := 2+d.n(19), "abcdefgh"[:1+d.n(8)]
		var l api.Locks
		for range 100 {
			if y, _, e := lock.Ask(l, d.lock(txns, things)); e == api.OK {
				l = y
			}
			for v, _ := lock.Victim(l); v != 0; v, _ = lock.Victim(l) {
				l, _, _ = lock.Leave(l, v)
			}
		}
		for len(l.Held)+len(l.Queue) > 0 {
			runs := slices.IndexFunc(l.Held, func(h api.Lock) bool {
				return !slices.ContainsFunc(l.Queue, func(q api.Lock) bool { return q.Txn == h.Txn })
			})
			if runs < 0 {
				t.Fatalf("%v: all wait", l)
			}
			l, _, _ = lock.Leave(l, l.Held[runs].Txn)
		}
	}
}
