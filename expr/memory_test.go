package expr_test

import (
	"bytes"
	"fmt"
	"slices"
	"testing"
	"unsafe"

	"padlock/api"
	"padlock/expr"
)

// spared: a list with room behind it.
func spared[T any](l []T) []T { return append(slices.Clone(l), make([]T, 3)...)[:len(l)] }

// spoil a key, its spare room, too.
func spoil(l []byte) {
	for i := range cap(l) {
		l[:cap(l)][i] = 99
	}
}

// What is handed in stays as it is, spare room too, and so does an answer, whatever becomes of others.
func TestMemory(t *testing.T) {
	l := spared(cols(col("s", api.Text), col("n", api.Int), col("b", api.Bool)))
	r := spared(row(str("abcdef"), num(5), yes))
	for _, s := range []string{"s = 'x'", "'x' = s", "s = 'x' AND s = 'x'", "b AND s = 'x' AND s < 'y'", "s < 'y' AND s > 'x'", "NOT s < 'x'", "NOT 'y' < s", "s", "'text'", "NOT b", "n * n", "x", "s + 1", "n + 9223372036854775807"} {
		o := spared(where(s))
		was := fmt.Sprint(l[:cap(l)], r[:cap(r)], o[:cap(o)])
		expr.Cols(l)
		expr.Row(l, r)
		expr.Kind(l, o)
		expr.Eval(l, r, o)
		low, high, _ := expr.Bounds(l, o)
		otherLow, otherHigh, _ := expr.Bounds(l, o)
		wasLow, wasHigh := bytes.Clone(low), bytes.Clone(high)
		spoil(otherLow)
		spoil(otherHigh)
		if !bytes.Equal(low, wasLow) || !bytes.Equal(high, wasHigh) {
			t.Errorf("%s: answers share memory", s)
		}
		spoil(low)
		if !bytes.Equal(high, wasHigh) {
			t.Errorf("%s: low and high share memory", s)
		}
		spoil(high)
		if is := fmt.Sprint(l[:cap(l)], r[:cap(r)], o[:cap(o)]); is != was {
			t.Errorf("%s: %s, was %s", s, is, was)
		}
	}
}

// A text that comes out is new memory.
func TestTextMemory(t *testing.T) {
	o, r := where("'text'"), row(str("text"))
	l := cols(col("s", api.Text))
	a, _ := expr.Eval(l, r, o)
	b, _ := expr.Eval(l, r, where("s"))
	c, _ := expr.Eval(l, r, o)
	var seen []*byte
	for _, v := range row(a, b, c, o[0].Value, r[0]) {
		p := unsafe.StringData(v.Text)
		if slices.Contains(seen, p) {
			t.Error("texts share memory")
		}
		seen = append(seen, p)
	}
}
