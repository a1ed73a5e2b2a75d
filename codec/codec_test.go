package codec_test

import (
	"bytes"
	"math"
	"slices"
	"strings"
	"testing"

	"padlock/api"
	"padlock/codec"
	"padlock/value"
)

var (
	null = api.Value{}
	no   = api.Value{Kind: api.Bool}
	yes  = api.Value{Kind: api.Bool, Int: 1}

	badKind = api.Value{Kind: 4}
	badForm = api.Value{Kind: api.Bool, Int: 2}
	badSize = text(strings.Repeat("x", api.MaxText+1))
)

func number(n int) api.Value  { return api.Value{Kind: api.Int, Int: n} }
func text(s string) api.Value { return api.Value{Kind: api.Text, Text: s} }

// full: a text of as many bytes as one may have.
func full(b string) api.Value { return text(strings.Repeat(b, api.MaxText)) }

// join lists of bytes to a new one.
func join(l ...[]byte) []byte { return slices.Concat(l...) }

// rising: values that may be, each of them ahead of the next one.
func rising() []api.Value {
	return []api.Value{
		null, no, yes,
		number(math.MinInt), number(math.MinInt + 1), number(-1 << 32), number(-257), number(-256), number(-255), number(-1),
		number(0), number(1), number(255), number(256), number(257), number(1 << 32), number(math.MaxInt - 1), number(math.MaxInt),
		text(""), full("\x00"), text("\x00\x01"), text("\x00\xff"), text("\x01"), text("A"), text("a"), text("a\x00"),
		text("a\x00\x00"), text("a\x00\x00b"), text("a\x00b"), text("a\x00\xff"), text("a\x01"), text("ab"), text("b"),
		text("é"), text("\xff"), text("\xff\x00"), text("\xff\x00\xff"), text("\xff\xff"), full("\xff"),
	}
}

// keys: lists of values, and the bytes of their keys.
var keys = []struct {
	l   []api.Value
	key []byte
}{
	{nil, nil},
	{[]api.Value{null}, []byte{0}},
	{[]api.Value{no}, []byte{1, 0}},
	{[]api.Value{yes}, []byte{1, 1}},
	{[]api.Value{number(0)}, []byte{2, 128, 0, 0, 0, 0, 0, 0, 0}},
	{[]api.Value{number(1)}, []byte{2, 128, 0, 0, 0, 0, 0, 0, 1}},
	{[]api.Value{number(-1)}, []byte{2, 127, 255, 255, 255, 255, 255, 255, 255}},
	{[]api.Value{number(-256)}, []byte{2, 127, 255, 255, 255, 255, 255, 255, 0}},
	{[]api.Value{number(0x0102030405060708)}, []byte{2, 129, 2, 3, 4, 5, 6, 7, 8}},
	{[]api.Value{number(math.MinInt)}, []byte{2, 0, 0, 0, 0, 0, 0, 0, 0}},
	{[]api.Value{number(math.MaxInt)}, []byte{2, 255, 255, 255, 255, 255, 255, 255, 255}},
	{[]api.Value{text("")}, []byte{3, 0, 0}},
	{[]api.Value{text("ab")}, []byte{3, 97, 98, 0, 0}},
	{[]api.Value{text("\x00")}, []byte{3, 0, 255, 0, 0}},
	{[]api.Value{text("\x00\x00")}, []byte{3, 0, 255, 0, 255, 0, 0}},
	{[]api.Value{text("\x00\xff\x01")}, []byte{3, 0, 255, 255, 1, 0, 0}},
	{[]api.Value{text("a\x00b")}, []byte{3, 97, 0, 255, 98, 0, 0}},
	{[]api.Value{text("é\xff")}, []byte{3, 0xc3, 0xa9, 255, 0, 0}},
	{[]api.Value{full("x")}, join([]byte{3}, bytes.Repeat([]byte{'x'}, api.MaxText), []byte{0, 0})},
	{[]api.Value{full("\x00")}, join([]byte{3}, bytes.Repeat([]byte{0, 255}, api.MaxText), []byte{0, 0})},
	{[]api.Value{null, yes, text("a\x00")}, []byte{0, 1, 1, 3, 97, 0, 255, 0, 0}},
	{[]api.Value{text(""), text("\x00"), no, number(-2), null}, []byte{3, 0, 0, 3, 0, 255, 0, 0, 1, 0, 2, 127, 255, 255, 255, 255, 255, 255, 254, 0}},
	{make([]api.Value, api.MaxValues), make([]byte, api.MaxValues)},
}

// P2.1, P2.2, P2.3: what stands in a key, both ways.
func TestKeys(t *testing.T) {
	for _, c := range keys {
		wantKey(t, c.l, c.key, api.OK)
		wantValues(t, c.key, c.l, api.OK)
	}
}

// P2.2
func TestEncodeRefusals(t *testing.T) {
	longest := []api.Value{full("a"), full("b"), full("c"), full("d"), text("12345")}
	wantBytes(t, longest, api.MaxKey)
	wantBytes(t, []api.Value{full("\x00"), full("\x00"), text("12345678"), null, null, null}, api.MaxKey)
	for _, c := range []struct {
		l    []api.Value
		want api.Errno
	}{
		{make([]api.Value, api.MaxValues+1), api.ErrSize},
		{make([]api.Value, 1000), api.ErrSize},
		{[]api.Value{badKind, null, null, null, null, null, null}, api.ErrSize},
		{slices.Repeat([]api.Value{full("\x00")}, api.MaxValues+1), api.ErrSize},

		{[]api.Value{badKind}, api.ErrKind},
		{[]api.Value{{Kind: -1}}, api.ErrKind},
		{[]api.Value{{Kind: 256}}, api.ErrKind}, // its lowest byte is that of a kind
		{[]api.Value{badForm}, api.ErrForm},
		{[]api.Value{{Kind: api.Bool, Int: 256}}, api.ErrForm},
		{[]api.Value{{Int: 1}}, api.ErrForm},
		{[]api.Value{{Kind: api.Int, Text: "a"}}, api.ErrForm},
		{[]api.Value{badSize}, api.ErrSize},
		{[]api.Value{null, null, null, null, null, badKind}, api.ErrKind},
		{[]api.Value{yes, badForm, badKind}, api.ErrForm},
		{[]api.Value{badSize, badForm}, api.ErrSize},
		{[]api.Value{badKind, badSize}, api.ErrKind},
		{[]api.Value{full("\x00"), full("\x00"), full("\x00"), badForm}, api.ErrForm}, // ahead of ErrOver

		{append(longest, null), api.ErrOver},
		{[]api.Value{full("a"), full("b"), full("c"), full("d"), text("123456")}, api.ErrOver},
		{[]api.Value{full("a"), full("b"), full("c"), full("d"), text("1234\x00")}, api.ErrOver},
		{[]api.Value{full("\x00"), full("\x00"), text("123456789"), null, null, null}, api.ErrOver},
		{slices.Repeat([]api.Value{full("\x00")}, api.MaxValues), api.ErrOver},
	} {
		wantKey(t, c.l, nil, c.want)
	}
}

// P2.3
func TestDecodeRefusals(t *testing.T) {
	x := func(n int) []byte { return bytes.Repeat([]byte{'x'}, n) }
	end := []byte{0, 0}
	for _, c := range []struct {
		key  []byte
		want api.Errno
	}{
		{make([]byte, api.MaxKey+1), api.ErrOver},
		{bytes.Repeat([]byte{4}, api.MaxKey+1), api.ErrOver},
		{make([]byte, 5000), api.ErrOver},

		{make([]byte, api.MaxValues+1), api.ErrSize},
		{make([]byte, api.MaxKey), api.ErrSize},
		{[]byte{0, 0, 0, 0, 0, 0, 4}, api.ErrSize},
		{[]byte{0, 0, 0, 0, 0, 0, 1}, api.ErrSize},
		{[]byte{1, 1, 1, 1, 1, 1, 1, 1, 1, 1, 1, 1, 0}, api.ErrSize},
		{[]byte{3, 0, 0, 3, 0, 0, 3, 0, 0, 3, 0, 0, 3, 0, 0, 3, 0, 0, 3, 0, 0}, api.ErrSize},

		{[]byte{4}, api.ErrKind},
		{[]byte{255}, api.ErrKind},
		{[]byte{0, 1, 0, 128, 0}, api.ErrKind},
		{[]byte{0, 0, 0, 0, 0, 4}, api.ErrKind},

		{[]byte{1}, api.ErrShort},
		{[]byte{0, 0, 0, 0, 0, 1}, api.ErrShort},
		{[]byte{2}, api.ErrShort},
		{[]byte{2, 128, 0, 0, 0, 0, 0, 0}, api.ErrShort},
		{[]byte{3}, api.ErrShort},
		{[]byte{3, 0}, api.ErrShort},
		{[]byte{3, 97}, api.ErrShort},
		{[]byte{3, 255}, api.ErrShort},

		{[]byte{1, 2}, api.ErrForm},
		{[]byte{1, 255}, api.ErrForm},
		{[]byte{1, 2, 4}, api.ErrForm},
		{[]byte{3, 97, 98}, api.ErrForm},
		{[]byte{3, 97, 0}, api.ErrForm},
		{[]byte{3, 0, 255}, api.ErrForm},
		{[]byte{3, 0, 255, 0}, api.ErrForm},
		{[]byte{3, 255, 0}, api.ErrForm},
		{[]byte{3, 0, 1}, api.ErrForm},
		{[]byte{3, 0, 1, 0, 0}, api.ErrForm},
		{[]byte{3, 0, 254, 0, 0}, api.ErrForm},
		{[]byte{3, 97, 0, 98, 0, 0}, api.ErrForm},
		{[]byte{3, 0, 255, 0, 2, 0, 0}, api.ErrForm},
		{join([]byte{3}, x(api.MaxText+1)), api.ErrForm},
		{join([]byte{3}, x(api.MaxKey-1)), api.ErrForm},
		{join([]byte{3}, x(api.MaxText+1), []byte{0, 1, 0, 0}), api.ErrForm}, // ahead of ErrSize

		{join([]byte{3}, x(api.MaxText+1), end), api.ErrSize},
		{join([]byte{3}, x(api.MaxKey-3), end), api.ErrSize},
		{join([]byte{3}, x(api.MaxText), []byte{0, 255}, end), api.ErrSize},
		{join([]byte{3}, bytes.Repeat([]byte{0, 255}, api.MaxText+1), end), api.ErrSize},
		{join([]byte{3}, x(api.MaxText+1), end, []byte{4}), api.ErrSize},
		{join([]byte{4, 3}, x(api.MaxText+1), end), api.ErrKind},
	} {
		wantValues(t, c.key, nil, c.want)
	}
}

// P2.3: a key at the limit.
func TestDecodeLongest(t *testing.T) {
	var key []byte
	for range 4 {
		key = append(append(append(key, 3), bytes.Repeat([]byte{'a'}, api.MaxText)...), 0, 0)
	}
	key = append(key, 3, '1', '2', '3', '4', '5', 0, 0)
	if len(key) != api.MaxKey {
		t.Fatalf("the key has %d bytes", len(key))
	}
	wantValues(t, key, []api.Value{full("a"), full("a"), full("a"), full("a"), text("12345")}, api.OK)
}

// P2.3: of all short lists of such bytes just those are keys that Encode makes.
func TestDecodeAll(t *testing.T) {
	alphabet := []byte{0, 1, 2, 3, 4, 97, 255}
	made := map[string]bool{}
	l := []api.Value{null, no, yes}
	for _, s := range texts(alphabet, 3) {
		l = append(l, text(s))
	}
	for _, v := range lists(l, 3) {
		if b, e := codec.Encode(v); e == api.OK && len(b) <= 6 {
			made[string(b)] = true
		}
	}
	for n := range 6 {
		made[strings.Repeat("\x00", n+1)] = true // more values than lists has
	}
	for _, s := range texts(alphabet, 6) {
		m, e := codec.Decode([]byte(s))
		if e != api.OK {
			if len(m) > 0 {
				t.Fatalf("Decode(%d) = %v, %d", []byte(s), m, e)
			}
			if made[s] {
				t.Fatalf("Decode(%d) = %d, but it is a key", []byte(s), e)
			}
			continue
		}
		if b, f := codec.Encode(m); f != api.OK || string(b) != s {
			t.Fatalf("Decode(%d) = %v, whose key is %d, %d", []byte(s), m, b, f)
		}
	}
}

// What comes of it: keys stand in the order of their values, one behind the other.
func TestOrder(t *testing.T) {
	l := rising()
	var sorted [][]byte
	for _, v := range l {
		b, e := codec.Encode([]api.Value{v})
		if e != api.OK {
			t.Fatalf("Encode(%v) = %d", v, e)
		}
		sorted = append(sorted, b)
	}
	for i, a := range sorted {
		for j, b := range sorted {
			n, e := value.Compare(l[i], l[j])
			if e != api.OK || bytes.Compare(a, b) != n {
				t.Errorf("the keys of %v and %v: %d and %d", l[i], l[j], a, b)
			}
		}
	}
	for i := range len(l) - 1 {
		for _, tail := range [][2]api.Value{{null, full("\xff")}, {full("\xff"), null}, {no, yes}} {
			a, e := codec.Encode([]api.Value{l[i], tail[0]})
			b, f := codec.Encode([]api.Value{l[i+1], tail[1]})
			c, g := codec.Encode([]api.Value{l[i], tail[1]})
			d, h := codec.Encode([]api.Value{l[i], tail[0]})
			if e != api.OK || f != api.OK || g != api.OK || h != api.OK {
				t.Fatalf("the keys of %v and %v: %d %d %d %d", l[i], l[i+1], e, f, g, h)
			}
			if bytes.Compare(a, b) >= 0 {
				t.Errorf("with %v behind: %d is not below %d", tail, a, b)
			}
			if n, _ := value.Compare(tail[1], tail[0]); bytes.Compare(c, d) != n {
				t.Errorf("with %v behind %v: %d and %d", tail, l[i], c, d)
			}
		}
	}
}

// What is handed in stays as it is, spare room too, and answers share nothing.
func TestMemory(t *testing.T) {
	l := []api.Value{text("a\x00"), yes, number(5), badKind, badKind}
	was := slices.Clone(l)
	a, _ := codec.Encode(l[:3])
	b, _ := codec.Encode(l[:3])
	key := append(slices.Clone(a), 7, 7, 7)
	whole := slices.Clone(key)
	c, e := codec.Decode(key[:len(a)])
	d, f := codec.Decode(key[:len(a)])
	if !slices.Equal(l, was) || !bytes.Equal(key, whole) || e != api.OK || f != api.OK {
		t.Fatalf("%v, %d: %d, %d", l, key, e, f)
	}
	spoil(a, 9)
	spoil(c, badKind)
	spoil(key, 9)
	if !bytes.Equal(b, whole[:len(b)]) || !slices.Equal(d, was[:3]) || !slices.Equal(l, was) {
		t.Errorf("%d, %v, %v", b, d, l)
	}
}

// spoil a list, its spare room too.
func spoil[T any](l []T, with T) {
	l = l[:cap(l)]
	for i := range l {
		l[i] = with
	}
}

// texts of these bytes, of at most as many.
func texts(alphabet []byte, most int) []string {
	all, last := []string{""}, []string{""}
	for range most {
		var next []string
		for _, s := range last {
			for _, b := range alphabet {
				next = append(next, s+string([]byte{b}))
			}
		}
		all, last = append(all, next...), next
	}
	return all
}

// lists of these values, of at most as many, whose texts have not too many bytes in all.
func lists(l []api.Value, most int) [][]api.Value {
	all, last := [][]api.Value{nil}, [][]api.Value{nil}
	for range most {
		var next [][]api.Value
		for _, m := range last {
			for _, v := range l {
				if size(m)+size([]api.Value{v}) <= 6 {
					next = append(next, append(slices.Clone(m), v))
				}
			}
		}
		all, last = append(all, next...), next
	}
	return all
}

// size: how many bytes a key of these has at least.
func size(l []api.Value) int {
	n := 0
	for _, v := range l {
		n += []int{1, 2, 9, 3}[v.Kind] + len(v.Text)
	}
	return n
}

func wantKey(t *testing.T, l []api.Value, want []byte, e api.Errno) {
	t.Helper()
	if b, f := codec.Encode(l); !bytes.Equal(b, want) || f != e {
		t.Errorf("Encode(%v) = %d, %d, want %d, %d", l, b, f, want, e)
	}
}

// wantBytes: the key has so many bytes, and leads back.
func wantBytes(t *testing.T, l []api.Value, n int) {
	t.Helper()
	b, e := codec.Encode(l)
	if len(b) != n || e != api.OK {
		t.Errorf("Encode(%v) = %d bytes, %d, want %d", l, len(b), e, n)
	}
	wantValues(t, b, l, api.OK)
}

func wantValues(t *testing.T, b []byte, want []api.Value, e api.Errno) {
	t.Helper()
	if l, f := codec.Decode(b); !slices.Equal(l, want) || f != e {
		t.Errorf("Decode(%d) = %v, %d, want %v, %d", b, l, f, want, e)
	}
}
