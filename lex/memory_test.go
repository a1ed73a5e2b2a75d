package lex_test

import (
	"fmt"
	"slices"
	"strings"
	"testing"
	"unsafe"

	"padlock/api"
	"padlock/lex"
)

// span of memory.
type span struct{ from, to uintptr }

// room of a list, its spare room, too.
func room[T any](l []T) span {
	var one T
	from := uintptr(unsafe.Pointer(unsafe.SliceData(l)))
	return span{from, from + uintptr(cap(l))*unsafe.Sizeof(one)}
}

// roomOf a text's bytes.
func roomOf(s string) span { return room(unsafe.Slice(unsafe.StringData(s), len(s))) }

// rooms of a list of tokens, of their texts, too.
func rooms(l []api.Token) []span {
	out := []span{room(l)}
	for _, x := range l {
		out = append(out, roomOf(x.Text))
	}
	return out
}

// wantApart: no two share memory.
func wantApart(t *testing.T, name string, l ...[]span) {
	t.Helper()
	all := slices.Concat(l...)
	all = slices.DeleteFunc(all, func(s span) bool { return s.from == s.to })
	slices.SortFunc(all, func(a, b span) int { return int(a.from) - int(b.from) })
	for i := range len(all) - 1 {
		if all[i].to > all[i+1].from {
			t.Errorf("%s: memory is shared", name)
			return
		}
	}
}

// spared: the same tokens, in memory of their own, with room behind them.
func spared(l []api.Token) []api.Token {
	out := make([]api.Token, 0, len(l)+3)
	for _, x := range l {
		out = append(out, api.Token{Kind: x.Kind, Text: strings.Clone(x.Text), Int: x.Int})
	}
	return append(out, number(7), word("z"), api.Token{Kind: 9})[:len(l)]
}

// What is handed in stays as it is, spare room too, and nothing that comes out shares memory with that, or with something else.
func TestMemory(t *testing.T) {
	for _, s := range []string{
		"", " ", "a", "abc", "7", "'a'", "'abc'", "''", "'a''b'", "(", "<=", "a a a", "( ( <= <= 'x' 'x' 'x''' 'x'''",
		"UPDATE t SET n = n + 1 WHERE name <> 'it''s' AND id >= 12", strings.Repeat("a ", api.MaxTokens),
	} {
		s = strings.Clone(s)
		l, _, _ := lex.Cut(s)
		again, _, _ := lex.Cut(s)
		in := spared(l)
		was := fmt.Sprint(in[:cap(in)])
		joined, _ := lex.Join(in)
		twice, _ := lex.Join(in)
		for _, x := range in {
			lex.Check(x)
		}
		if is := fmt.Sprint(in[:cap(in)]); is != was {
			t.Errorf("%s\nwas %s", is, was)
		}
		wantApart(t, fmt.Sprintf("%q", s), rooms(l), rooms(again), rooms(in), []span{roomOf(s), roomOf(joined), roomOf(twice)})
	}
}

// A statement that is refused leaves nothing behind that was cut ahead of the fault.
func TestNothingWithErrors(t *testing.T) {
	for _, s := range []string{"a ?", "a 1a", "a 'b", "a 9223372036854775808", strings.Repeat("a ", api.MaxTokens+1), strings.Repeat("a", api.MaxSource+1)} {
		if l, _, e := lex.Cut(s); e == api.OK || len(l) > 0 || len(slices.DeleteFunc(l[:cap(l)], func(x api.Token) bool { return x == api.Token{} })) > 0 {
			t.Errorf("Cut(%q) = %v, %d", s, l[:cap(l)], e)
		}
	}
}
