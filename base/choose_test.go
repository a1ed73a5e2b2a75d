package base_test

import (
	"slices"
	"strconv"
	"strings"
	"testing"

	"padlock/api"
	"padlock/base"
)

// P8.5
func TestSelect(t *testing.T) {
	b := usual(t)
	for _, c := range []struct {
		s     string
		count int
		want  string
	}{
		{"* FROM t", 5, "1 2 'a' NULL; 2 1 NULL TRUE; 3 1 'b' TRUE; 4 2 'ab' FALSE; 5 NULL 'b' FALSE"},
		{"* FROM u", 2, "''; 'x'"},
		{"* FROM t WHERE id = 9", 0, ""},
		{"id, n, s, b FROM t WHERE id = 3", 1, "3 1 'b' TRUE"},
		{"b, id FROM t", 5, "NULL 1; TRUE 2; TRUE 3; FALSE 4; FALSE 5"},
		{"s, s, s, id, s, s FROM t WHERE id > 3", 2, "'ab' 'ab' 'ab' 4 'ab' 'ab'; 'b' 'b' 'b' 5 'b' 'b'"},
		{"id FROM t ORDER BY id", 5, "1; 2; 3; 4; 5"},
		{"id FROM t ORDER BY id DESC", 5, "5; 4; 3; 2; 1"},
		{"id, n FROM t ORDER BY n", 5, "5 NULL; 2 1; 3 1; 1 2; 4 2"},
		{"id, n FROM t ORDER BY n DESC", 5, "1 2; 4 2; 2 1; 3 1; 5 NULL"}, // of the same values the lesser key is still first
		{"id FROM t ORDER BY s", 5, "2; 1; 4; 3; 5"},
		{"id FROM t ORDER BY s DESC", 5, "3; 5; 4; 1; 2"},
		{"id FROM t ORDER BY b", 5, "1; 4; 5; 2; 3"},
		{"id FROM t ORDER BY b DESC", 5, "2; 3; 4; 5; 1"},
		{"s FROM u ORDER BY s DESC", 2, "'x'; ''"},
		{"id FROM t WHERE n < 2 OR b IS NULL ORDER BY n DESC", 3, "1; 2; 3"},
		{"id FROM t LIMIT 0", 0, ""},
		{"id FROM t LIMIT 1", 1, "1"},
		{"id FROM t LIMIT 4", 4, "1; 2; 3; 4"},
		{"id FROM t LIMIT 5", 5, "1; 2; 3; 4; 5"},
		{"id FROM t LIMIT 6", 5, "1; 2; 3; 4; 5"},
		{"id FROM t LIMIT 9223372036854775807", 5, "1; 2; 3; 4; 5"},
		{"id FROM t ORDER BY n DESC LIMIT 3", 3, "1; 4; 2"},
		{"id FROM t WHERE b IS NOT NULL ORDER BY s LIMIT 2", 2, "2; 4"},
		{"COUNT (*) FROM t", 5, "5"},
		{"COUNT (*) FROM t WHERE n = 1", 2, "2"},
		{"COUNT (*) FROM t WHERE id = 9", 0, "0"},
		{"COUNT (*) FROM t LIMIT 3", 3, "3"}, // it is the rows that there would be that it counts
		{"COUNT (*) FROM t LIMIT 0", 0, "0"},
		{"COUNT (*) FROM t WHERE b ORDER BY n DESC LIMIT 9", 2, "2"},
	} {
		wantRows(t, b, "SELECT "+c.s, c.count, c.want)
	}
	_, r, _ := base.Run(b, read("SELECT COUNT (*) FROM t"))
	if !same(r, api.Result{Rows: [][]api.Value{{num(5)}}, Count: 5}) {
		t.Errorf("%v", r)
	}
	for s, want := range map[string]api.Errno{
		"zz FROM t":                              api.ErrNone,
		"id, n, zz FROM t":                       api.ErrNone,
		"ID FROM t":                              api.ErrNone,
		"* FROM t ORDER BY zz":                   api.ErrNone,
		"COUNT (*) FROM t ORDER BY zz":           api.ErrNone,
		"id FROM t ORDER BY t LIMIT 0":           api.ErrNone,
		"zz FROM t WHERE id":                     api.ErrNone,
		"n FROM t WHERE id ORDER BY zz":          api.ErrNone, // ahead of what Where says
		"n FROM t WHERE n + 'a' = 1 ORDER BY zz": api.ErrNone,
		"n FROM t WHERE n + 'a' = 1 ORDER BY n":  api.ErrType,
		"id FROM u":                              api.ErrNone, // of another table
		"n FROM t ORDER BY zz DESC":              api.ErrNone,
	} {
		wantRefused(t, b, read("SELECT "+s), want)
	}
}

// P8.5: of many rows with the same values those with the lesser keys come first.
func TestSelectOrder(t *testing.T) {
	b := after(t, api.Base{}, "CREATE TABLE t (id INT, n INT)")
	var rising, down []string
	for i := range api.MaxSlots {
		id := i * 7 % api.MaxSlots
		b = after(t, b, "INSERT INTO t VALUES ("+strconv.Itoa(id)+", "+strconv.Itoa(id%2)+")")
		rising = append(rising, strconv.Itoa(i))
	}
	for i := range 2 {
		for id := 1 - i; id < api.MaxSlots; id += 2 {
			down = append(down, strconv.Itoa(id))
		}
	}
	up := slices.Concat(down[api.MaxSlots/2:], down[:api.MaxSlots/2])
	for s, want := range map[string][]string{" ORDER BY n": up, " ORDER BY n DESC": down, " ORDER BY n DESC LIMIT 7": down[:7], "": rising, " LIMIT 39": rising[:39]} {
		wantRows(t, b, "SELECT id FROM t"+s, len(want), strings.Join(want, "; "))
	}
	b = after(t, b, "UPDATE t SET n = NULL")
	for _, s := range []string{" ORDER BY n", " ORDER BY n DESC"} {
		wantRows(t, b, "SELECT id FROM t"+s, len(rising), strings.Join(rising, "; "))
	}
}

// P8.7
func TestRows(t *testing.T) {
	b := usual(t)
	for name, want := range map[string]string{
		"t": "1 2 'a' NULL; 2 1 NULL TRUE; 3 1 'b' TRUE; 4 2 'ab' FALSE; 5 NULL 'b' FALSE",
		"u": "''; 'x'",
	} {
		if l, e := base.Rows(b, name); lines(l) != want || e != api.OK {
			t.Errorf("%s: %v, %d", name, l, e)
		}
	}
	b = after(t, b, "DELETE FROM u", "UPDATE t SET id = 0 - id")
	if l, e := base.Rows(b, "u"); len(l) > 0 || e != api.OK {
		t.Errorf("%v, %d", l, e)
	}
	if l, e := base.Rows(b, "t"); lines(l) != "-5 NULL 'b' FALSE; -4 2 'ab' FALSE; -3 1 'b' TRUE; -2 1 NULL TRUE; -1 2 'a' NULL" || e != api.OK {
		t.Errorf("%v, %d", l, e)
	}
	for _, name := range []string{"", "T", "z", "TABLE", "tt", "t\x00", "a name that is far too long"} {
		if l, e := base.Rows(b, name); len(l) > 0 || e != api.ErrNone {
			t.Errorf("%q: %v, %d", name, l, e)
		}
	}
	if l, e := base.Rows(api.Base{}, "t"); len(l) > 0 || e != api.ErrNone {
		t.Errorf("%v, %d", l, e)
	}
}
