package expr_test

import (
	"bytes"
	"math"
	"strings"
	"testing"

	"padlock/api"
	"padlock/codec"
	"padlock/expr"
)

// key of a value; of none: no key.
func key(l ...api.Value) []byte {
	b, e := codec.Encode(l)
	if e != api.OK {
		panic(e)
	}
	return b
}

// at: the key of a number.
func at(n int) []byte { return key(num(n)) }

// P7.5: what says something, and what does not.
func TestBounds(t *testing.T) {
	for s, want := range map[string][2][]byte{
		"id = 7": {at(7), at(7)}, "7 = id": {at(7), at(7)}, "id = - 7": {at(-7), at(-7)}, "id = 9223372036854775807": {at(math.MaxInt), at(math.MaxInt)},
		"id < 7": {nil, at(7)}, "7 < id": {at(7), nil}, "id > 7": {at(7), nil}, "7 > id": {nil, at(7)},
		"id <= 7": {nil, at(7)}, "7 <= id": {at(7), nil}, "id >= 7": {at(7), nil}, "7 >= id": {nil, at(7)},
		"NOT id < 7": {at(7), nil}, "NOT 7 < id": {nil, at(7)}, "NOT id > 7": {nil, at(7)}, "NOT 7 > id": {at(7), nil},

		"id <> 7": {}, "NOT id = 7": {}, "7 <> id": {}, "NOT id <= 7": {}, "NOT id >= 7": {}, "NOT NOT id < 7": {}, "NOT NOT 7 < id": {}, "NOT NOT NOT id < 7": {}, "NOT NOT id = 7": {}, "NOT NOT NOT 7 < id": {},
		"n = 7": {}, "n < 7": {}, "7 < n": {}, "n >= 7": {}, "s = 'a'": {}, "b = TRUE": {}, "id = n": {}, "n < id": {}, "id = id": {}, "id < id": {}, "NOT id < id": {}, "NOT n < id": {}, "7 = 7": {}, "7 < 8": {}, "NOT 7 < 8": {}, "7 = n": {}, "NOT n < 7": {}, "NOT 7 < n": {},
		"id = NULL": {}, "NULL = id": {}, "id < NULL": {}, "NULL < id": {}, "NOT id < NULL": {}, "NOT NULL < id": {}, "NULL = NULL": {}, "NOT NULL < NULL": {},
		"id + 0 = 7": {}, "7 = id + 0": {}, "id = 7 + 0": {}, "id < 7 * 1": {}, "id - 1 < 7": {}, "7 < id * 1": {}, "id IS NULL": {}, "id IS NOT NULL": {}, "(id = 7) IS NULL": {}, "(id = 7) = TRUE": {}, "TRUE = (id = 7)": {}, "(id < 7) < TRUE": {},
		"NULL": {}, "TRUE": {}, "FALSE": {}, "b": {}, "NOT b": {}, "NULL AND NULL": {}, "b OR NULL": {}, "NOT NULL": {},

		"id > 3 AND id < 7": {at(3), at(7)}, "id < 7 AND id > 3": {at(3), at(7)}, "id > 7 AND id < 3": {at(7), at(3)}, "id = 3 AND id = 7": {at(7), at(3)}, "id = 7 AND id = 3": {at(7), at(3)}, "id = 3 AND id = 3": {at(3), at(3)},
		"id > 3 AND id > 7": {at(7), nil}, "id > 7 AND id > 3": {at(7), nil}, "id < 3 AND id < 7": {nil, at(3)}, "id < 7 AND id < 3": {nil, at(3)}, "id > - 3 AND id > 3": {at(3), nil}, "id < - 3 AND id < 3": {nil, at(-3)}, "id > 255 AND id > 256": {at(256), nil}, "id < 255 AND id < 256": {nil, at(255)},
		"id = 5 AND id < 7": {at(5), at(5)}, "id = 5 AND id < 3": {at(5), at(3)}, "id < 7 AND id = 5": {at(5), at(5)}, "id > 5 AND id = 3": {at(5), at(3)}, "id = 3 AND id > 5": {at(5), at(3)},
		"id > 3 AND b": {at(3), nil}, "b AND id > 3": {at(3), nil}, "b AND id = 3": {at(3), at(3)}, "NULL AND id = 3": {at(3), at(3)}, "FALSE AND id < 3": {nil, at(3)}, "id < 3 AND n IS NULL": {nil, at(3)}, "id = 3 AND (id = 4 OR id = 5)": {at(3), at(3)},
		"b AND (b AND (b AND id = 3))": {at(3), at(3)}, "((id > 1 AND b) AND b) AND id < 9": {at(1), at(9)}, "id > 1 AND id > 2 AND id > 3 AND id < 9 AND id < 8 AND id < 7": {at(3), at(7)}, "id > 3 AND (id > 1 AND (id > 2 AND id < 7) AND id < 9)": {at(3), at(7)},
		"(NOT id < 3) AND (NOT 7 < id)": {at(3), at(7)}, "id >= 3 AND id <= 7 AND id <> 5": {at(3), at(7)},

		"id = 3 OR id = 3": {}, "id = 3 OR b": {}, "id > 3 OR FALSE": {}, "NOT (id = 3 AND b)": {}, "NOT (id < 3 AND id > 7)": {}, "NOT (id < 3 OR id > 7)": {}, "NOT (NOT id < 3)": {}, "(id < 3 AND b) = TRUE": {}, "(id = 3 AND id = 4) IS NOT NULL": {}, "id = 3 AND b OR b": {}, "NOT (id < 3 AND id < 3)": {},
		"(NOT id < 3) OR (NOT id < 3)": {}, "b AND (id = 3 OR id = 4)": {}, "b AND NOT (b AND id = 3)": {}, "b AND NOT NOT id < 3": {}, "b AND (id = 3) = b": {}, "(NOT (id < 3)) = b": {}, "(NOT id < 3) IS NULL": {}, "NOT (id < 3) IS NULL": {}, "NOT (id < 3) = b": {}, "NOT b < (id < 3)": {},
	} {
		wantBounds(t, table(), where(s), want[0], want[1], api.OK)
	}
}

// P7.5: first columns of other kinds.
func TestBoundsKinds(t *testing.T) {
	text := cols(col("s", api.Text), col("id", api.Text), col("b", api.Bool))
	for s, want := range map[string][2][]byte{
		"s = 'a'": {key(str("a")), key(str("a"))}, "s < 'a'": {nil, key(str("a"))}, "s > 'a'": {key(str("a")), nil}, "s > ''": {key(str("")), nil}, "s <= ''": {nil, key(str(""))}, "'ab' > s AND 'a' < s": {key(str("a")), key(str("ab"))}, "s > 'B' AND s > 'a'": {key(str("a")), nil},
		"s > 'ab' AND s > 'b'": {key(str("b")), nil}, "s < 'ab' AND s < 'b'": {nil, key(str("ab"))}, "s < 'ab' AND s < 'a'": {nil, key(str("a"))}, "id = 'a'": {}, "s = id": {}, "s = NULL": {}, "b": {},
	} {
		wantBounds(t, text, where(s), want[0], want[1], api.OK)
	}
	for _, b := range []string{"\x00", "\xff"} {
		v := str(strings.Repeat(b, api.MaxText)) // a key of as many bytes as may be
		wantBounds(t, text, ops(literal(v), column("s"), op(api.Equal)), key(v), key(v), api.OK)
		wantBounds(t, text, ops(column("s"), literal(v), op(api.Less)), nil, key(v), api.OK)
	}
	truth := cols(col("b", api.Bool), col("id", api.Int))
	for s, want := range map[string][2][]byte{
		"b = TRUE": {key(yes), key(yes)}, "b = FALSE": {key(no), key(no)}, "b < TRUE": {nil, key(yes)}, "b > FALSE": {key(no), nil}, "b >= TRUE": {key(yes), nil}, "b = (id = 1)": {}, "(TRUE AND TRUE) = b": {}, "b": {}, "NOT b": {}, "b = TRUE AND b = FALSE": {key(yes), key(no)}, "b AND b": {}, "id = 1": {},
		"b < TRUE AND (b AND TRUE)": {nil, key(yes)}, "(b AND TRUE) < TRUE": {}, "NOT (NOT b) < TRUE": {}, "b = (NOT TRUE)": {},
	} {
		wantBounds(t, truth, where(s), want[0], want[1], api.OK)
	}
	wantBounds(t, cols(col("n", api.Int), col("id", api.Int)), where("id = 7 AND n < 3"), nil, at(3), api.OK) // it is the place that makes it the first one
}

// P7.5: no ops, and what is refused.
func TestBoundsRefusals(t *testing.T) {
	wantBounds(t, table(), nil, nil, nil, api.OK)
	wantBounds(t, table(), ops(), nil, nil, api.OK)
	wantBounds(t, nil, nil, nil, nil, api.ErrSize)
	for _, s := range []string{"1", "id", "n", "s", "'x'", "''", "id + 1", "NULL + NULL", "n * NULL", "id - id", "0"} {
		wantBounds(t, table(), where(s), nil, nil, api.ErrType)
	}
	for s, want := range map[string]api.Errno{ // more of it stands with Kind's tests
		"id = 7 AND x": api.ErrNone, "id = 7 AND x + 1": api.ErrNone, "id = 7 AND n": api.ErrType, "id = 'a'": api.ErrType, "id < TRUE": api.ErrType, "x = 7": api.ErrNone, "x + 1": api.ErrNone,
	} {
		wantBounds(t, table(), where(s), nil, nil, want)
	}
	for _, l := range [][]api.Op{ops(literal(num(math.MinInt))), ops(column("id"), literal(num(math.MinInt)), op(api.Equal))} {
		wantBounds(t, table(), l, nil, nil, api.ErrRange)
	}
}

func wantBounds(t *testing.T, l []api.Col, o []api.Op, low, high []byte, wanted api.Errno) {
	t.Helper()
	if a, b, e := expr.Bounds(l, o); !bytes.Equal(a, low) || !bytes.Equal(b, high) || e != wanted {
		t.Errorf("Bounds(%v, %v) = %v, %v, %d, want %v, %v, %d", l, o, a, b, e, low, high, wanted)
	}
}
