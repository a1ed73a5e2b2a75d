package lock_test

import (
	"fmt"
	"slices"
	"testing"

	"padlock/api"
	"padlock/lock"
)

// P4.4: locks that may be.
func TestMayBe(t *testing.T) {
	l := []api.Locks{
		{}, {Held: []api.Lock{}, Queue: []api.Lock{}},
		many(api.MaxHeld, "a", api.S), many(api.MaxHeld, "", api.IX),
		{Held: inForm()},
		{Held: many(1, "a", api.X).Held, Queue: many(api.MaxHeld, "a", api.S).Held[1:]},
	}
	for _, s := range []string{
		"1 a X", "1 a X, 2 b X, 1 c X", "1 a S, 2 a S, 3 a IS", "1 a SIX, 2 a IS, 3 a IS", "1 a IX, 2 a IX, 3 a IS",
		"1 a X | 2 a X", "1 a X | 2 a IS", "1 a X | 2 a IS, 3 a IS", "1 a S | 2 a X, 3 a S",
		"1 a S, 2 a S | 1 a X, 2 a X", "1 a S, 2 a S | 1 a SIX", "1 a IX, 2 a IX | 1 a SIX", "1 a IS, 2 a S | 1 a IX", "1 a IS, 2 a IX | 1 a S",
		"1 a X, 2 b X | 2 a X, 1 b S", "1 a S | 2 a IX, 3 a IX",
		"1 a S, 2 b X | 3 a X, 2 a S",
	} {
		l = append(l, locks(s))
	}
	for _, x := range l {
		if e := lock.Check(x); e != api.OK {
			t.Errorf("Check(%v) = %d", x, e)
		}
	}
}

// P4.4: locks that may not be, each for one reason; all calls refuse them, ahead of what else is wrong.
func TestMayNotBe(t *testing.T) {
	l := []api.Locks{
		many(api.MaxHeld+1, "a", api.S), many(5000, "a", api.IS),
		{Held: many(1, "a", api.X).Held, Queue: many(api.MaxHeld+1, "a", api.S).Held[1:]},
		{Held: many(api.MaxHeld, "a", api.S).Held, Queue: []api.Lock{{Txn: 1, Thing: "a", Mode: api.X}}},
	}
	for _, c := range outOfForm() {
		l = append(l, api.Locks{Held: []api.Lock{c.x}}, api.Locks{Held: []api.Lock{{Txn: 3, Thing: "b", Mode: api.X}, c.x}},
			api.Locks{Held: []api.Lock{{Txn: 3, Thing: c.x.Thing, Mode: api.X}}, Queue: []api.Lock{c.x}},
			api.Locks{Held: locks("3 a X").Held, Queue: []api.Lock{{Txn: 4, Thing: "a", Mode: api.X}, c.x}})
	}
	for _, s := range []string{
		// Twice held.
		"1 a S, 1 a S", "1 a S, 1 a IS", "1 a IS, 1 a S", "1 a S, 1 a X", "1 a S, 2 a S, 1 a S", "1 a S, 2 b S, 3 b S, 2 b IS",
		// Held, though they do not go together.
		"1 a X, 2 a IS", "1 a IS, 2 a X", "1 a S, 2 a IX", "1 a IS, 2 a IX, 3 a S", "1 a SIX, 2 a SIX", "1 a X, 2 b S, 3 a X", "1 a S, 2 a SIX",
		// Twice in the queue.
		"1 a X | 2 a X, 2 a X", "1 a X | 2 a S, 2 a X", "1 a X, 1 b X | 2 a S, 2 b S", "1 a X, 1 b X | 3 a X, 2 a S, 3 b S",
		"1 a S, 2 a S, 2 b S, 1 b S | 1 a X, 1 b X",
		// No more than it holds, or not joined with that.
		"1 a S, 2 a S | 1 a S", "1 a SIX, 2 a IS | 1 a S", "1 a S, 2 a S | 1 a IX", "1 a S, 2 a IS | 1 a IX", "1 a IX, 2 a IX | 1 a S",
		"1 a IX, 2 a IX | 1 a IX", "1 a S, 3 a S | 2 a X, 1 a S", "1 a S, 3 a S | 2 a X, 1 a IS", "1 a IX, 3 a IX | 1 a IS",
		// Waits for nobody.
		"| 1 a S", "| 1 a S, 2 a S", "1 a S | 1 a X", "1 a S | 2 a S", "1 a S | 2 a IS", "1 a S | 2 b X", "1 a IX | 2 a IX, 3 a S", "1 a IS | 2 a SIX",
		"1 a S, 2 a IS | 3 a X, 2 a S", "1 a S | 3 a X, 1 a SIX", "1 a X, 2 b IX | 3 a S, 1 b IX", "1 a X | 2 a S, 3 b S",
	} {
		l = append(l, locks(s))
	}
	for _, x := range l {
		wantRefused(t, x)
	}
}

// wantRefused: each call refuses the locks, whatever else it is handed, and answers nothing more.
func wantRefused(t *testing.T, l api.Locks) {
	t.Helper()
	if e := lock.Check(l); e != api.ErrState {
		t.Errorf("Check(%v) = %d", l, e)
	}
	for _, x := range []api.Lock{{}, {Txn: 1}, {Txn: 1, Thing: "a", Mode: api.S}, {Txn: 9, Thing: "z", Mode: api.X}} {
		wantAskRefused(t, l, x, api.ErrState)
		if y, have, e := lock.Leave(l, x.Txn); len(y.Held)+len(y.Queue)+len(have) > 0 || e != api.ErrState {
			t.Errorf("Leave(%v, %d) = %v, %v, %d", l, x.Txn, y, have, e)
		}
	}
	if w, e := lock.Waits(l); len(w) > 0 || e != api.ErrState {
		t.Errorf("Waits(%v) = %v, %d", l, w, e)
	}
	if v, e := lock.Victim(l); v != 0 || e != api.ErrState {
		t.Errorf("Victim(%v) = %d, %d", l, v, e)
	}
}

// mayBe: the words of P4.4, one by one.
func mayBe(l api.Locks) bool {
	type grip struct {
		txn   int
		thing string
	}
	held, queued := map[grip]int{}, map[int]bool{}
	for _, x := range l.Held {
		g := grip{x.Txn, x.Thing}
		if held[g] != 0 {
			return false
		}
		held[g] = x.Mode
		for _, y := range l.Held {
			if y.Txn != x.Txn && y.Thing == x.Thing && !fits(x.Mode, y.Mode) {
				return false
			}
		}
	}
	for i, x := range l.Queue {
		if queued[x.Txn] || len(waitsFor(l, i)) == 0 {
			return false
		}
		queued[x.Txn] = true
		if mode := held[grip{x.Txn, x.Thing}]; mode != 0 {
			if sum, _ := lock.Join(mode, x.Mode); x.Mode == mode || sum != x.Mode {
				return false
			}
		}
	}
	return true
}

// P4.4: all locks of up to three transactions and one thing, or of two of each, two that are held and two in the queue at most.
func TestAllSmall(t *testing.T) {
	for _, all := range [][]api.Lock{everyLock(3, "a"), everyLock(2, "", "a")} {
		pairs := [][]api.Lock{nil}
		for _, x := range all {
			pairs = append(pairs, []api.Lock{x})
			for _, y := range all {
				pairs = append(pairs, []api.Lock{x, y})
			}
		}
		may := 0
		for _, held := range pairs {
			for _, queue := range pairs {
				l := api.Locks{Held: held, Queue: queue}
				want := api.ErrState
				if mayBe(l) {
					want = api.OK
					may++
				}
				if e := lock.Check(l); e != want {
					t.Fatalf("Check(%v) = %d, want %d", l, e, want)
				}
			}
		}
		if may < 100 {
			t.Errorf("of %v only %d may be", all, may)
		}
	}
}

// everyLock of so many transactions on the things.
func everyLock(txns int, things ...string) []api.Lock {
	var l []api.Lock
	for txn := 1; txn <= txns; txn++ {
		for _, thing := range things {
			for mode := api.IS; mode <= api.X; mode++ {
				l = append(l, api.Lock{Txn: txn, Thing: thing, Mode: mode})
			}
		}
	}
	return l
}

func fits(a, b int) bool {
	is, _ := lock.Fits(a, b)
	return is
}

// waitsFor: the words of P4.6: for whom the one at a place of the queue waits.
func waitsFor(l api.Locks, place int) []int {
	x := l.Queue[place]
	met := map[int]bool{}
	holds := false
	for _, h := range l.Held {
		switch {
		case h.Thing != x.Thing:
		case h.Txn == x.Txn:
			holds = true
		case !fits(h.Mode, x.Mode):
			met[h.Txn] = true
		}
	}
	for _, q := range l.Queue[:place] {
		if !holds && q.Thing == x.Thing {
			met[q.Txn] = true
		}
	}
	var out []int
	for txn := range met {
		out = append(out, txn)
	}
	slices.Sort(out)
	return out
}

// The fault of one lock is found wherever it stands among others.
func TestPlaces(t *testing.T) {
	good := locks("1 a S, 2 a S, 3 b X, 4 c IX, 5 c IX | 6 a X, 7 b S, 8 c S, 1 a X")
	if e := lock.Check(good); e != api.OK {
		t.Fatal(e)
	}
	for i := range good.Held {
		for _, bad := range []api.Lock{{Txn: 0, Thing: "z", Mode: 1}, {Txn: 1, Thing: "z", Mode: 6}, {Txn: 9, Thing: "a", Mode: api.IX}, {Txn: 2, Thing: "a", Mode: api.S}} {
			l := api.Locks{Held: slices.Insert(slices.Clone(good.Held), i, bad), Queue: good.Queue}
			if e := lock.Check(l); e != api.ErrState {
				t.Errorf("Check(%v) = %d", l, e)
			}
		}
	}
	for i := range good.Queue {
		for _, bad := range []api.Lock{{Txn: 0, Thing: "a", Mode: 5}, {Txn: 9, Thing: "a", Mode: 6}, {Txn: 9, Thing: "z", Mode: api.X}, {Txn: 7, Thing: "a", Mode: api.X}, {Txn: 2, Thing: "a", Mode: api.S}} {
			l := api.Locks{Held: good.Held, Queue: slices.Insert(slices.Clone(good.Queue), i, bad)}
			if e := lock.Check(l); e != api.ErrState {
				t.Errorf("Check(%s) = %d", fmt.Sprint(l), e)
			}
		}
	}
}
