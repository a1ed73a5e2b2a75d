package lock_test

import (
	"fmt"
	"slices"
	"strings"
	"testing"
	"unsafe"

	"padlock/api"
	"padlock/lock"
)

// places in memory of a list's elements, and of its spare room.
func places[T any](l []T) []any {
	var out []any
	for i := range l[:cap(l)] {
		out = append(out, &l[:cap(l)][i])
	}
	return out
}

// text: the places of a text's bytes.
func text(s string) []any { return places(unsafe.Slice(unsafe.StringData(s), len(s))) }

// placesOf locks, of their texts, too.
func placesOf(l api.Locks) []any {
	out := slices.Concat(places(l.Held), places(l.Queue))
	for _, x := range slices.Concat(l.Held, l.Queue) {
		out = append(out, text(x.Thing)...)
	}
	return out
}

// wantApart: no place is there twice.
func wantApart(t *testing.T, name string, l ...[]any) {
	t.Helper()
	met := map[any]bool{}
	for _, place := range slices.Concat(l...) {
		if met[place] {
			t.Errorf("%s: memory is shared", name)
			return
		}
		met[place] = true
	}
}

// spared: the same locks, each list with room behind it.
func spared(l api.Locks) api.Locks {
	list := func(l []api.Lock) []api.Lock {
		room := make([]api.Lock, 0, len(l)+4)
		for _, x := range l {
			room = append(room, api.Lock{Txn: x.Txn, Thing: strings.Clone(x.Thing), Mode: x.Mode})
		}
		return append(room, one("7 z X"), one("7 z X"), one("7 z X"))[:len(l)]
	}
	return api.Locks{Held: list(l.Held), Queue: list(l.Queue)}
}

// whole: all of the locks, spare room, too.
func whole(l api.Locks) string {
	return fmt.Sprint(l.Held[:cap(l.Held)], l.Queue[:cap(l.Queue)], len(l.Held), len(l.Queue))
}

// What is handed in stays as it is, spare room too, and nothing that comes out shares memory with that, or with something else.
func TestMemory(t *testing.T) {
	for _, s := range []string{
		"", "1 a S", "1 a S, 2 b X | 3 a X", "1 a S, 2 a S, 2 b X | 3 a X, 4 a S, 5 b S, 1 a X", "1 a X | 2 a S, 3 a S, 4 a X, 5 a S, 6 a S",
	} {
		l := spared(locks(s))
		was := whole(l)
		waits, _ := lock.Waits(l)
		again, _ := lock.Waits(l)
		out := [][]any{placesOf(l), places(waits), places(again)}
		for _, w := range slices.Concat(waits, again) {
			out = append(out, places(w))
		}
		for _, asked := range []string{"1 a S", "1 a X", "9 a X", "9 c X", "2 a IS", "2 b X", "3 a X"} {
			x := one(asked)
			out = append(out, text(x.Thing))
			for range 2 {
				y, _, _ := lock.Ask(l, x)
				z, have, _ := lock.Leave(l, x.Txn)
				out = append(out, placesOf(y), placesOf(z), places(have))
			}
		}
		lock.Check(l)
		lock.Victim(l)
		wantApart(t, s, out...)
		if is := whole(l); is != was {
			t.Errorf("%s\nwas %s", is, was)
		}
	}
}
