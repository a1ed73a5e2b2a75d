package lock_test

import (
	"fmt"
	"math"
	"slices"
	"strconv"
	"strings"
	"testing"

	"padlock/api"
	"padlock/lock"
)

var names = map[string]int{"IS": api.IS, "IX": api.IX, "S": api.S, "SIX": api.SIX, "X": api.X}

// wrong modes.
var wrong = []int{math.MinInt, -1, 0, api.X + 1, math.MaxInt}

// one lock, written so: 1 a SIX
func one(s string) api.Lock {
	l := strings.Fields(s)
	txn, _ := strconv.Atoi(l[0])
	return api.Lock{Txn: txn, Thing: l[1], Mode: names[l[2]]}
}

// locks, written so: 1 a S, 2 a IS | 3 a X
func locks(s string) api.Locks {
	held, queue, _ := strings.Cut(s, "|")
	list := func(s string) []api.Lock {
		var l []api.Lock
		for _, x := range strings.Split(s, ",") {
			if strings.TrimSpace(x) != "" {
				l = append(l, one(x))
			}
		}
		return l
	}
	return api.Locks{Held: list(held), Queue: list(queue)}
}

// many: each of so many transactions holds a thing in a mode.
func many(n int, thing string, mode int) api.Locks {
	var l api.Locks
	for i := range n {
		l.Held = append(l.Held, api.Lock{Txn: i + 1, Thing: thing, Mode: mode})
	}
	return l
}

// same: are two answers the same, whether lists without elements are nil or not?
func same(a, b any) bool { return fmt.Sprintf("%v", a) == fmt.Sprintf("%v", b) }

// P4.1
func TestFits(t *testing.T) {
	for a, row := range []string{
		"yyyyn", // IS
		"yynnn", // IX
		"ynynn", // S
		"ynnnn", // SIX
		"nnnnn", // X
	} {
		for b, c := range row {
			if is, e := lock.Fits(a+1, b+1); is != (c == 'y') || e != api.OK {
				t.Errorf("Fits(%d, %d) = %v, %d", a+1, b+1, is, e)
			}
		}
	}
}

// can: what a mode lets one do: read some (1), read all (2), write some (4), do anything (8).
var can = []int{api.IS: 1, api.IX: 1 | 4, api.S: 1 | 2, api.SIX: 1 | 2 | 4, api.X: 15}

// P4.2
func TestJoin(t *testing.T) {
	for a := api.IS; a <= api.X; a++ {
		for b := api.IS; b <= api.X; b++ {
			want := api.X
			for c := api.IS; c <= api.X; c++ {
				if can[c]&can[a] == can[a] && can[c]&can[b] == can[b] && can[c]&can[want] == can[c] {
					want = c
				}
			}
			if c, e := lock.Join(a, b); c != want || e != api.OK {
				t.Errorf("Join(%d, %d) = %d, %d, want %d", a, b, c, e, want)
			}
		}
	}
	for _, c := range [][3]int{
		{api.S, api.S, api.S}, {api.IS, api.IX, api.IX}, {api.S, api.IS, api.S}, {api.IX, api.S, api.SIX},
		{api.S, api.IX, api.SIX}, {api.SIX, api.IX, api.SIX}, {api.SIX, api.S, api.SIX}, {api.X, api.SIX, api.X}, {api.IS, api.X, api.X},
	} {
		if m, e := lock.Join(c[0], c[1]); m != c[2] || e != api.OK {
			t.Errorf("Join(%d, %d) = %d, %d, want %d", c[0], c[1], m, e, c[2])
		}
	}
}

// P4.1, P4.2: modes that there are not, on either side or both.
func TestWrongModes(t *testing.T) {
	for _, a := range wrong {
		for _, b := range append([]int{api.IS, api.IX, api.S, api.SIX, api.X}, wrong...) {
			for _, c := range [][2]int{{a, b}, {b, a}} {
				if is, e := lock.Fits(c[0], c[1]); is || e != api.ErrKind {
					t.Errorf("Fits(%d, %d) = %v, %d", c[0], c[1], is, e)
				}
				if m, e := lock.Join(c[0], c[1]); m != 0 || e != api.ErrKind {
					t.Errorf("Join(%d, %d) = %d, %d", c[0], c[1], m, e)
				}
			}
		}
	}
}

// reason: a lock, and what its form lacks.
type reason struct {
	x    api.Lock
	want api.Errno
}

// outOfForm: locks that lack their form.
func outOfForm() []reason {
	long := strings.Repeat("x", api.MaxThing+1)
	return []reason{
		{api.Lock{}, api.ErrRange},
		{api.Lock{Txn: 0, Thing: "a", Mode: api.S}, api.ErrRange},
		{api.Lock{Txn: -1, Thing: "a", Mode: api.S}, api.ErrRange},
		{api.Lock{Txn: api.MaxTxns + 1, Thing: "a", Mode: api.S}, api.ErrRange},
		{api.Lock{Txn: math.MinInt, Thing: long, Mode: 9}, api.ErrRange},
		{api.Lock{Txn: math.MaxInt, Thing: long, Mode: api.S}, api.ErrRange},
		{api.Lock{Txn: 0, Thing: "a", Mode: 0}, api.ErrRange},
		{api.Lock{Txn: 1, Thing: long, Mode: api.S}, api.ErrSize},
		{api.Lock{Txn: 1, Thing: strings.Repeat("x", 5000), Mode: api.S}, api.ErrSize},
		{api.Lock{Txn: 1, Thing: strings.Repeat("é", api.MaxThing/2) + "x", Mode: api.S}, api.ErrSize}, // bytes are counted, not letters
		{api.Lock{Txn: 1, Thing: long, Mode: 0}, api.ErrSize},
		{api.Lock{Txn: 1, Thing: "a", Mode: 0}, api.ErrKind},
		{api.Lock{Txn: 1, Thing: "a", Mode: -1}, api.ErrKind},
		{api.Lock{Txn: 1, Thing: "a", Mode: 6}, api.ErrKind},
		{api.Lock{Txn: 1, Thing: "a", Mode: math.MinInt}, api.ErrKind},
		{api.Lock{Txn: 1, Thing: "a", Mode: math.MaxInt}, api.ErrKind},
	}
}

// inForm: locks at the edges of their form.
func inForm() []api.Lock {
	return []api.Lock{
		{Txn: 1, Thing: "", Mode: api.IS}, {Txn: api.MaxTxns, Thing: "a", Mode: api.X}, {Txn: 2, Thing: "\x00\xff", Mode: api.SIX},
		{Txn: 1, Thing: strings.Repeat("x", api.MaxThing), Mode: api.IX}, {Txn: 1, Thing: strings.Repeat("é", api.MaxThing/2), Mode: api.S},
	}
}

// P4.3: what is asked for.
func TestForm(t *testing.T) {
	for _, l := range []api.Locks{{}, locks("1 a S, 2 a S | 3 a X"), locks("2 a X | 1 a X"), many(api.MaxHeld, "a", api.S)} {
		for _, c := range outOfForm() {
			wantAskRefused(t, l, c.x, c.want)
		}
	}
	for _, x := range inForm() {
		l, has, e := lock.Ask(api.Locks{}, x)
		if !same(l, api.Locks{Held: []api.Lock{x}}) || !has || e != api.OK {
			t.Errorf("Ask(%v) = %v, %v, %d", x, l, has, e)
		}
	}
}

func wantAskRefused(t *testing.T, l api.Locks, x api.Lock, want api.Errno) {
	t.Helper()
	if y, has, e := lock.Ask(l, x); len(y.Held)+len(y.Queue) > 0 || has || e != want {
		t.Errorf("Ask(%v, %v) = %v, %v, %d, want %d", l, x, y, has, e, want)
	}
}

// P4.5: a transaction has it, whether something changes or not, or it stands behind the queue.
func TestAsk(t *testing.T) {
	for _, c := range []struct {
		before, x string
		has       bool
		after     string
	}{
		{"", "1 a X", true, "1 a X"},
		{"1 a X", "2 b X", true, "1 a X, 2 b X"},
		{"1 a S", "2 a S", true, "1 a S, 2 a S"},
		{"1 a S", "2 a X", false, "1 a S | 2 a X"},
		{"1 a S", "2 a IX", false, "1 a S | 2 a IX"},
		{"1 a SIX", "2 a IS", true, "1 a SIX, 2 a IS"},
		{"1 a X", "2 a IS", false, "1 a X | 2 a IS"},
		{"2 a S, 1 a S, 1 b S", "1 c S", true, "2 a S, 1 a S, 1 b S, 1 c S"},

		// What it has.
		{"1 a S", "1 a S", true, "1 a S"},
		{"1 a S, 2 a S", "1 a IS", true, "1 a S, 2 a S"},
		{"1 a SIX, 2 b S", "1 a IX", true, "1 a SIX, 2 b S"},
		{"1 a SIX", "1 a S", true, "1 a SIX"},
		{"1 a X | 2 a X", "1 a SIX", true, "1 a X | 2 a X"},

		// What it has is joined: in its place, if nobody is in the way.
		{"1 a S, 2 b S", "1 a X", true, "1 a X, 2 b S"},
		{"2 b S, 1 a S, 3 c S", "1 a IX", true, "2 b S, 1 a SIX, 3 c S"},
		{"1 a IX, 2 a IS", "1 a S", true, "1 a SIX, 2 a IS"},
		{"2 a IS, 1 a IS", "1 a IX", true, "2 a IS, 1 a IX"},
		{"1 a S, 2 a S", "1 a X", false, "1 a S, 2 a S | 1 a X"},
		{"1 a IX, 2 a IX", "1 a S", false, "1 a IX, 2 a IX | 1 a SIX"},
		{"1 a S, 2 a S", "2 a IX", false, "1 a S, 2 a S | 2 a SIX"},
		{"1 a IX, 2 a IX", "1 a IS", true, "1 a IX, 2 a IX"},
		{"1 a S, 1 b S, 2 a S", "1 b X", true, "1 a S, 1 b X, 2 a S"},

		// Behind the queue for that thing: it waits even if it goes with all that is held; not if it holds the thing.
		{"1 a S | 2 a X", "3 a S", false, "1 a S | 2 a X, 3 a S"},
		{"1 a S | 2 a X", "3 a IS", false, "1 a S | 2 a X, 3 a IS"},
		{"1 a S, 3 a IS | 2 a X", "3 a S", true, "1 a S, 3 a S | 2 a X"},
		{"1 a S | 2 a X", "1 a X", true, "1 a X | 2 a X"},
		{"1 a S | 2 a X", "1 a IX", true, "1 a SIX | 2 a X"},
		{"1 a S, 3 a IS | 2 a X", "3 a IX", false, "1 a S, 3 a IS | 2 a X, 3 a IX"},
		{"1 a S | 2 a X", "3 b X", true, "1 a S, 3 b X | 2 a X"},
		{"1 a S, 4 b S | 2 a X", "3 b X", false, "1 a S, 4 b S | 2 a X, 3 b X"},
		{"1 a S, 3 b X | 2 a X", "3 a S", false, "1 a S, 3 b X | 2 a X, 3 a S"},
		{"1 a X | 2 a S", "3 a S", false, "1 a X | 2 a S, 3 a S"},
	} {
		l, has, e := lock.Ask(locks(c.before), one(c.x))
		if !same(l, locks(c.after)) || has != c.has || e != api.OK {
			t.Errorf("Ask(%s; %s) = %v, %v, %d, want %v, %v", c.before, c.x, l, has, e, locks(c.after), c.has)
		}
		if e := lock.Check(l); e != api.OK {
			t.Errorf("Check(%v) = %d", l, e)
		}
	}
}

// P4.5: one that stands in the queue asks for nothing, not even for what it has; its form is told ahead of that.
func TestAskTwice(t *testing.T) {
	for _, x := range []string{"3 a X", "3 a S", "3 a IS", "3 b S", "3 b X", "3 c IS"} {
		wantAskRefused(t, locks("1 a S, 3 b S | 2 a X, 3 a X"), one(x), api.ErrTwice)
		wantAskRefused(t, locks("1 b S, 3 b S, 3 c X | 3 b X"), one(x), api.ErrTwice)
	}
	wantAskRefused(t, locks("1 a S | 2 a X"), api.Lock{Txn: 2, Thing: strings.Repeat("a", api.MaxThing+1), Mode: 9}, api.ErrSize)
	wantAskRefused(t, locks("1 a S | 2 a X"), api.Lock{Txn: 2, Thing: "a"}, api.ErrKind)
}

// P4.5: the last lock that there is room for, and the next one; what takes no room is not refused.
func TestAskFull(t *testing.T) {
	full := many(api.MaxHeld, "a", api.S)
	nearly := many(api.MaxHeld-1, "a", api.S)
	for _, x := range []api.Lock{
		{Txn: 1000, Thing: "a", Mode: api.S}, {Txn: 1000, Thing: "b", Mode: api.X}, {Txn: 1, Thing: "b", Mode: api.X},
		{Txn: 1000, Thing: "a", Mode: api.X}, {Txn: 1, Thing: "a", Mode: api.X}, {Txn: 1, Thing: "a", Mode: api.IX},
	} {
		wantAskRefused(t, full, x, api.ErrFull)
		l, _, e := lock.Ask(nearly, x)
		if len(l.Held)+len(l.Queue) != api.MaxHeld || e != api.OK {
			t.Errorf("Ask(.., %v) = %v, %d", x, l, e)
		}
		for _, y := range []api.Lock{{Txn: 2000, Thing: "a", Mode: api.S}, {Txn: 2000, Thing: "c", Mode: api.IS}} {
			wantAskRefused(t, l, y, api.ErrFull)
		}
	}
	last := api.MaxHeld - 1
	full.Held[last].Thing = "b"
	for _, x := range []api.Lock{
		{Txn: 1, Thing: "a", Mode: api.S}, {Txn: 1, Thing: "a", Mode: api.IS}, {Txn: last + 1, Thing: "b", Mode: api.X},
	} {
		l, has, e := lock.Ask(full, x)
		if len(l.Held) != api.MaxHeld || len(l.Queue) > 0 || !has || e != api.OK {
			t.Errorf("Ask(.., %v) = %v, %v, %d", x, l, has, e)
		}
	}
	queued, _, e := lock.Ask(nearly, api.Lock{Txn: 1000, Thing: "a", Mode: api.X})
	if e != api.OK {
		t.Error(e)
	}
	wantAskRefused(t, queued, api.Lock{Txn: 1000, Thing: "b", Mode: api.X}, api.ErrTwice)
}

// P4.6
func TestWaits(t *testing.T) {
	for _, c := range []struct {
		l    string
		want [][]int
	}{
		{"", nil},
		{"1 a X, 2 b X", nil},
		{"1 a S | 2 a X", [][]int{{1}}},
		{"3 a S, 1 a S, 2 a S | 4 a X", [][]int{{1, 2, 3}}},
		{"3 a IX, 1 a IS, 2 a IS | 4 a S", [][]int{{3}}},
		{"1 a S, 2 a S | 1 a X", [][]int{{2}}},
		{"1 a S, 2 a S | 1 a X, 2 a X", [][]int{{2}, {1}}},
		{"1 a S, 2 a S | 2 a SIX, 1 a SIX", [][]int{{1}, {2}}},
		{"1 a S | 3 a X, 2 a S", [][]int{{1}, {3}}},
		{"1 a X | 3 a S, 2 a S, 4 a S", [][]int{{1}, {1, 3}, {1, 2, 3}}},
		{"1 a X, 9 b X | 5 a S, 4 b S, 3 a S, 2 b S", [][]int{{1}, {9}, {1, 5}, {4, 9}}},
		{"1 a S, 2 a S | 1 a X, 3 a X", [][]int{{2}, {1, 2}}}, // 1 holds, and stands ahead
		{"1 a IS, 2 a S | 3 a IX, 1 a IX", [][]int{{2}, {2}}}, // 1 holds some: it waits for nobody ahead
		{"1 a S, 3 b X | 3 a X, 2 b S, 1 b S", [][]int{{1}, {3}, {2, 3}}},
		{"1 a X, 1 b X | 2 a X", [][]int{{1}}},
	} {
		if w, e := lock.Waits(locks(c.l)); !same(w, c.want) || e != api.OK {
			t.Errorf("Waits(%s) = %v, %d, want %v", c.l, w, e, c.want)
		}
	}
}

// P4.7
func TestLeave(t *testing.T) {
	for _, c := range []struct {
		before string
		txn    int
		after  string
		have   []int
	}{
		{"", 1, "", nil},
		{"1 a X", 1, "", nil},
		{"1 a X", 2, "1 a X", nil},
		{"1 a X", api.MaxTxns, "1 a X", nil},
		{"1 a X, 2 b S, 1 c S, 3 b S, 1 b S", 1, "2 b S, 3 b S", nil},
		{"1 a S | 2 a X", 1, "2 a X", []int{2}},
		{"1 a S | 2 a X", 2, "1 a S", nil},
		{"1 a S, 3 a S | 2 a X", 1, "3 a S | 2 a X", nil},
		{"1 a X | 2 a S, 3 a S, 4 a X, 5 a S", 1, "2 a S, 3 a S | 4 a X, 5 a S", []int{2, 3}},
		{"1 a X | 2 a X, 3 a X", 1, "2 a X | 3 a X", []int{2}},
		{"1 a X | 2 a X, 3 a S", 2, "1 a X | 3 a S", nil},
		{"1 a S | 2 a X, 3 a S, 4 a S", 2, "1 a S, 3 a S, 4 a S", []int{3, 4}},

		// In place of what it holds.
		{"1 a S, 2 a S, 2 b S | 1 a X", 2, "1 a X", []int{1}},
		{"3 c S, 1 a IX, 4 d S, 2 a IX | 1 a SIX", 2, "3 c S, 1 a SIX, 4 d S", []int{1}},
		{"1 a S, 2 a S | 1 a X, 2 a X", 2, "1 a X", []int{1}},
		{"1 a S, 2 a S | 1 a X, 2 a X", 1, "2 a X", []int{2}},
		{"1 a IS, 2 a S | 3 a IX, 1 a IX", 2, "1 a IX, 3 a IX", []int{3, 1}},
		{"2 a X | 3 a S, 4 a S, 5 a X", 4, "2 a X | 3 a S, 5 a X", nil},
		{"1 a S, 2 a S, 4 a S | 3 a X, 1 a X", 4, "1 a S, 2 a S | 3 a X, 1 a X", nil},
		{"1 a S, 2 a S | 3 a X, 1 a X", 2, "1 a X | 3 a X", []int{1}},

		// The first one that waits for nobody, each time from the first one on.
		{"1 a X, 1 b X | 2 a S, 3 b S, 4 a S", 1, "2 a S, 3 b S, 4 a S", []int{2, 3, 4}},
		{"1 a X, 1 b X, 5 c X | 6 c S, 4 b X, 3 a X, 2 b X", 1, "5 c X, 4 b X, 3 a X | 6 c S, 2 b X", []int{4, 3}},
		{"1 a IS, 2 a IS, 3 a S | 2 a IX, 1 a IX", 3, "1 a IX, 2 a IX", []int{2, 1}},
		{"1 a IS, 4 a IX | 5 a S, 1 a S", 4, "1 a S, 5 a S", []int{5, 1}},
		{"4 a X, 4 b X | 1 a IX, 2 a IX, 3 a S, 5 b S", 4, "1 a IX, 2 a IX, 5 b S | 3 a S", []int{1, 2, 5}},
	} {
		l, have, e := lock.Leave(locks(c.before), c.txn)
		if !same(l, locks(c.after)) || !same(have, c.have) || e != api.OK {
			t.Errorf("Leave(%s; %d) = %v, %v, %d, want %v, %v", c.before, c.txn, l, have, e, locks(c.after), c.have)
		}
	}
	for _, txn := range []int{math.MinInt, -1, 0, api.MaxTxns + 1, math.MaxInt} {
		l, have, e := lock.Leave(locks("1 a S | 2 a X"), txn)
		if len(l.Held)+len(l.Queue)+len(have) > 0 || e != api.ErrRange {
			t.Errorf("Leave(.., %d) = %v, %v, %d", txn, l, have, e)
		}
	}
}

// P4.8
func TestVictim(t *testing.T) {
	for _, c := range []struct {
		l    string
		want int
	}{
		{"", 0},
		{"1 a X", 0},
		{"1 a X | 2 a X", 0},
		{"1 a X | 2 a X, 3 a X", 0},
		{"1 a X, 2 b X | 3 a X, 2 a X", 0},
		{"1 a S, 2 a S | 1 a X", 0},
		{"1 a S, 2 a S | 1 a X, 2 a X", 2},
		{"1 a S, 2 a S | 2 a X, 1 a X", 2},
		{"7 a S, 2 a S | 7 a X, 2 a X", 7},
		{"1 a X, 2 b X | 1 b X, 2 a X", 2},
		{"1 a X, 2 b X, 3 c X | 1 b X, 2 c X", 0},
		{"1 a X, 2 b X, 3 c X | 1 b X, 2 c X, 3 a X", 3},
		{"3 a X, 2 b X, 1 c X | 3 b X, 2 c X, 1 a X", 3},
		// 9 waits for some that wait for themselves, but nobody waits for it.
		{"1 a X, 2 b X | 1 b X, 2 a X, 9 a X", 2},
		{"1 a X, 2 b X, 9 c X | 1 b X, 2 a X, 9 a X, 8 c S", 2},
		// They wait for 9, which waits for nobody, or for one that does.
		{"1 a X, 2 b X, 9 c X | 1 b X, 2 a X, 5 c X", 2},
		{"1 a X, 2 b SIX, 9 b IS | 1 b X, 2 a X", 2},
		{"1 a X, 2 b SIX, 9 b IS, 8 d X | 1 b X, 2 a X, 9 d X", 2},
		// Two rounds that have nothing in common.
		{"1 a X, 2 b X, 3 c X, 4 d X | 1 b X, 2 a X, 3 d X, 4 c X", 4},
		{"4 a X, 1 b X, 3 c X, 2 d X | 4 b X, 1 a X, 3 d X, 2 c X", 4},
		// By the queue: 3 waits for 2, which stands ahead of it, 2 for what 1 holds, 1 for 3.
		{"1 a S, 3 b X | 2 a X, 3 a S, 1 b S", 3},
		{"1 a S, 3 b X | 2 a X, 3 a S", 0},
		{"1 a S, 3 b X | 2 a X, 1 b S", 0},
		{"1 a S, 3 b X, 3 a IS | 2 a X, 1 b S", 0},
		{"5 a S, 3 b X | 9 a X, 3 a S, 5 b S", 9},
		// Greatest and least numbers.
		{"1048576 a S, 1 a S | 1 a X, 1048576 a X", api.MaxTxns},
	} {
		if v, e := lock.Victim(locks(c.l)); v != c.want || e != api.OK {
			t.Errorf("Victim(%s) = %d, %d, want %d", c.l, v, e, c.want)
		}
	}
}

// P4.8: a round of all that there is room for.
func TestLongRound(t *testing.T) {
	const n = api.MaxHeld / 2
	var l api.Locks
	for i := range n {
		l.Held = append(l.Held, api.Lock{Txn: 3 * (i + 1), Thing: strconv.Itoa(i), Mode: api.X})
		l.Queue = append(l.Queue, api.Lock{Txn: 3 * (i + 1), Thing: strconv.Itoa((i + 1) % n), Mode: api.X})
	}
	if v, e := lock.Victim(l); v != 3*n || e != api.OK {
		t.Errorf("%d, %d", v, e)
	}
	l.Queue = slices.Delete(l.Queue, 7, 8)
	if v, e := lock.Victim(l); v != 0 || e != api.OK {
		t.Errorf("%d, %d", v, e)
	}
}
