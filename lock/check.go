package lock

import (
	"slices"

	"padlock/api"
)

// Check locks.
func Check(l api.Locks) api.Errno {
	if tooMany(l) || !formed(l.Held) || !formed(l.Queue) || !heldMayBe(l.Held) || !queueMayBe(l) {
		return api.ErrState
	}
	return api.OK
}

// tooMany: are there more locks than there may be?
func tooMany(l api.Locks) bool {
	return len(l.Held)+len(l.Queue) > api.MaxHeld
}

// isTxn: is there such a transaction?
func isTxn(txn int) bool {
	return txn >= 1 && txn <= api.MaxTxns
}

// isMode: is there such a mode?
func isMode(mode int) bool {
	return mode >= api.IS && mode <= api.X
}

// form: what a lock's form lacks.
func form(x api.Lock) api.Errno {
	switch {
	case !isTxn(x.Txn):
		return api.ErrRange
	case len(x.Thing) > api.MaxThing:
		return api.ErrSize
	case !isMode(x.Mode):
		return api.ErrKind
	}
	return api.OK
}

// formed: have all locks their form?
func formed(locks []api.Lock) bool {
	return !slices.ContainsFunc(locks, func(x api.Lock) bool { return form(x) != api.OK })
}

// heldMayBe: may all that are held be held at once?
func heldMayBe(held []api.Lock) bool {
	for i, x := range held {
		if slices.ContainsFunc(held[:i], on(x)) || slices.ContainsFunc(held[:i], against(x)) {
			return false
		}
	}
	return true
}

// queueMayBe: does each in the queue stand there once, for more than it holds, and wait for somebody?
func queueMayBe(l api.Locks) bool {
	for i, x := range l.Queue {
		ahead, holds := l.Queue[:i], heldMode(l.Held, x)
		more := x.Mode != holds && x.Mode == joined[holds][x.Mode]
		if slices.ContainsFunc(ahead, of(x.Txn)) || !more || len(waitsFor(l.Held, ahead, x)) == 0 {
			return false
		}
	}
	return true
}
