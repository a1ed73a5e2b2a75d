package base_test

import (
	"math"
	"strconv"
	"testing"

	"padlock/api"
	"padlock/base"
	"padlock/tree"
)

// P8.6: columns behind the first one.
func TestUpdate(t *testing.T) {
	b := usual(t)
	for s, want := range map[string]struct {
		count int
		rows  string
	}{
		"n = 7":                     {5, "3 7 'b' TRUE; -; 1 7 'a' NULL; 5 7 'b' FALSE; 2 7 NULL TRUE; 4 7 'ab' FALSE"},
		"n = n + 1 WHERE id = 1":    {1, "3 1 'b' TRUE; -; 1 3 'a' NULL; 5 NULL 'b' FALSE; 2 1 NULL TRUE; 4 2 'ab' FALSE"},
		"n = n + id":                {5, "3 4 'b' TRUE; -; 1 3 'a' NULL; 5 NULL 'b' FALSE; 2 3 NULL TRUE; 4 6 'ab' FALSE"},
		"n = NULL WHERE n = 2":      {2, "3 1 'b' TRUE; -; 1 NULL 'a' NULL; 5 NULL 'b' FALSE; 2 1 NULL TRUE; 4 NULL 'ab' FALSE"},
		"s = 'new' WHERE s IS NULL": {1, "3 1 'b' TRUE; -; 1 2 'a' NULL; 5 NULL 'b' FALSE; 2 1 'new' TRUE; 4 2 'ab' FALSE"},
		"s = NULL WHERE s = 'b'":    {2, "3 1 NULL TRUE; -; 1 2 'a' NULL; 5 NULL NULL FALSE; 2 1 NULL TRUE; 4 2 'ab' FALSE"},
		"b = NOT b":                 {5, "3 1 'b' FALSE; -; 1 2 'a' NULL; 5 NULL 'b' TRUE; 2 1 NULL FALSE; 4 2 'ab' TRUE"},
		"b = id < n":                {5, "3 1 'b' FALSE; -; 1 2 'a' TRUE; 5 NULL 'b' NULL; 2 1 NULL FALSE; 4 2 'ab' FALSE"},
		"n = 1 WHERE n = 9":         {0, "3 1 'b' TRUE; -; 1 2 'a' NULL; 5 NULL 'b' FALSE; 2 1 NULL TRUE; 4 2 'ab' FALSE"},
		"n = n WHERE id < 4":        {3, "3 1 'b' TRUE; -; 1 2 'a' NULL; 5 NULL 'b' FALSE; 2 1 NULL TRUE; 4 2 'ab' FALSE"},
		"n = 0 - 9223372036854775807 - 1 WHERE id = 1": {1, "3 1 'b' TRUE; -; 1 -9223372036854775808 'a' NULL; 5 NULL 'b' FALSE; 2 1 NULL TRUE; 4 2 'ab' FALSE"},
	} {
		x := wantChange(t, b, "UPDATE t SET "+s, want.count, want.rows)
		if !same(x.Tables[0].Index, b.Tables[0].Index) {
			t.Errorf("%s: %v, was %v", s, x.Tables[0].Index, b.Tables[0].Index)
		}
	}
}

// P8.6: the first column, whose values are keys.
func TestUpdateKeys(t *testing.T) {
	b := usual(t)
	index := take(t, put(t, tree.New(), "3", "9", "1", "5", "2", "4"), 9)
	for s, want := range map[string]struct {
		rows  string
		gone  []int
		order []int // of the places, in which the new keys come: that of the old ones
	}{
		"id = id + 1":           {"4 1 'b' TRUE; -; 2 2 'a' NULL; 6 NULL 'b' FALSE; 3 1 NULL TRUE; 5 2 'ab' FALSE", []int{1, 2, 3, 4, 5}, []int{2, 4, 0, 5, 3}},
		"id = 10 - id":          {"7 1 'b' TRUE; -; 9 2 'a' NULL; 5 NULL 'b' FALSE; 8 1 NULL TRUE; 6 2 'ab' FALSE", []int{1, 2, 3, 4, 5}, []int{2, 4, 0, 5, 3}},
		"id = id":               {"3 1 'b' TRUE; -; 1 2 'a' NULL; 5 NULL 'b' FALSE; 2 1 NULL TRUE; 4 2 'ab' FALSE", []int{1, 2, 3, 4, 5}, []int{2, 4, 0, 5, 3}},
		"id = id + 10 WHERE b":  {"13 1 'b' TRUE; -; 1 2 'a' NULL; 5 NULL 'b' FALSE; 12 1 NULL TRUE; 4 2 'ab' FALSE", []int{2, 3}, []int{4, 0}},
		"id = 9 WHERE id = 1":   {"3 1 'b' TRUE; -; 9 2 'a' NULL; 5 NULL 'b' FALSE; 2 1 NULL TRUE; 4 2 'ab' FALSE", []int{1}, []int{2}},
		"id = 6 WHERE id = 7":   {"3 1 'b' TRUE; -; 1 2 'a' NULL; 5 NULL 'b' FALSE; 2 1 NULL TRUE; 4 2 'ab' FALSE", nil, nil},
		"id = NULL WHERE FALSE": {"3 1 'b' TRUE; -; 1 2 'a' NULL; 5 NULL 'b' FALSE; 2 1 NULL TRUE; 4 2 'ab' FALSE", nil, nil},
	} {
		x := wantChange(t, b, "UPDATE t SET "+s, len(want.gone), want.rows)
		wanted := take(t, index, want.gone...)
		for _, place := range want.order {
			wanted = putOne(t, wanted, x.Tables[0].Rows[place][0].Int, place)
		}
		if !same(x.Tables[0].Index, wanted) {
			t.Errorf("%s: %v\nwant %v", s, x.Tables[0].Index, wanted)
		}
	}
}

// P8.6: new keys come in the order of the old ones, which another order would put into other pages.
func TestUpdateOrder(t *testing.T) {
	b := after(t, api.Base{}, "CREATE TABLE t (id INT)")
	index := tree.New()
	for i := range 12 {
		id := 11 - i
		b = after(t, b, "INSERT INTO t VALUES ("+strconv.Itoa(id)+")")
		index = putOne(t, index, id, i)
	}
	for _, c := range []struct {
		to  string
		new func(id int) int
	}{
		{"id + 100", func(id int) int { return id + 100 }},
		{"0 - id - 100", func(id int) int { return -id - 100 }},
		{"100 + id * 2", func(id int) int { return 100 + id*2 }},
	} {
		var all []int
		for id := range 12 {
			all = append(all, id)
		}
		want := take(t, index, all...)
		for _, id := range all {
			want = putOne(t, want, c.new(id), 11-id)
		}
		other := take(t, index, all...)
		for i := range all {
			other = putOne(t, other, c.new(11-i), i)
		}
		x, _, e := base.Run(b, read("UPDATE t SET id = "+c.to))
		if e != api.OK || !same(x.Tables[0].Index, want) || same(want, other) {
			t.Errorf("%s: %v\nwant %v, %d", c.to, x.Tables[0].Index, want, e)
		}
	}
}

// P8.6: what is refused, and in which order.
func TestUpdateRefused(t *testing.T) {
	b := usual(t)
	const most = "9223372036854775807"
	for s, want := range map[string]api.Errno{
		"zz = 1":                   api.ErrNone,
		"zz = 'a' + 1":             api.ErrNone, // ahead of what To says
		"zz = zz":                  api.ErrNone,
		"n = zz":                   api.ErrNone,
		"n = zz + 'a'":             api.ErrNone,
		"n = 'a' + zz":             api.ErrNone,
		"n = 'a' + 1 + zz":         api.ErrType,
		"n = NOT n":                api.ErrType,
		"n = 'a'":                  api.ErrType,
		"n = TRUE":                 api.ErrType,
		"n = s":                    api.ErrType,
		"n = n = 1":                api.ErrType,
		"s = 1":                    api.ErrType,
		"b = n":                    api.ErrType,
		"id = 'a'":                 api.ErrType,
		"id = b WHERE FALSE":       api.ErrType,
		"n = 'a' WHERE zz":         api.ErrType, // ahead of what Where says
		"n = 'a' + 1 WHERE zz":     api.ErrType,
		"zz = 'a' WHERE id":        api.ErrNone,
		"n = 1 WHERE zz":           api.ErrNone,
		"n = 1 WHERE id":           api.ErrType,
		"id = NULL":                api.ErrType,
		"id = n":                   api.ErrType, // at the row 5, though 2 and 1 would come twice: all are reckoned ahead
		"id = n WHERE id > 4":      api.ErrType,
		"n = n + " + most:          api.ErrOver,
		"n = id * " + most:         api.ErrOver,
		"id = id * " + most:        api.ErrOver,
		"id = 7":                   api.ErrTwice,
		"id = 3 WHERE id = 1":      api.ErrTwice,
		"id = id + 1 WHERE id < 3": api.ErrTwice,
		"id = 7 WHERE b":           api.ErrTwice,
		"id = n + " + most:         api.ErrOver,
		// Where is reckoned for all rows ahead of To: at the row 3 it does not fit, at the row 1 To is Null.
		"id = NULL WHERE id * 3074457345618258603 > 0 AND id < 4":  api.ErrOver,
		"id = NULL WHERE id * 3074457345618258602 > 0 AND id <= 3": api.ErrType,
	} {
		wantRefused(t, b, read("UPDATE t SET "+s), want)
	}
	// Row by row, in the order of the keys: To does not fit at one row, is Null at another one.
	b = after(t, b, "UPDATE t SET n = "+most+" WHERE id = 3", "UPDATE t SET n = NULL WHERE id = 2")
	wantRefused(t, b, read("UPDATE t SET id = n + 10 WHERE id > 1 AND id < 4"), api.ErrType)
	wantRefused(t, b, read("UPDATE t SET id = n + 10 WHERE id = 3 OR id = 5"), api.ErrOver)
	b = after(t, b, "UPDATE t SET id = 0 - 3 WHERE id = 3")
	wantRefused(t, b, read("UPDATE t SET id = n + 10 WHERE id = 0 - 3 OR id = 2"), api.ErrOver)
	wantChange(t, b, "UPDATE t SET n = n + 0", 5, "-3 "+most+" 'b' TRUE; -; 1 2 'a' NULL; 5 NULL 'b' FALSE; 2 NULL NULL TRUE; 4 2 'ab' FALSE")
}

// P8.6, P8.1: a key may be the least number, though no statement tells it.
func TestUpdateLeast(t *testing.T) {
	b := after(t, usual(t), "UPDATE t SET id = 0 - 9223372036854775807 - id WHERE id = 1")
	if n := b.Tables[0].Rows[2][0].Int; n != math.MinInt {
		t.Error(n)
	}
	wantRows(t, b, "SELECT id FROM t LIMIT 2", 2, "-9223372036854775808; 2")
	wantRows(t, b, "SELECT id FROM t WHERE id < - 9223372036854775807", 1, "-9223372036854775808")
	wantRefused(t, b, read("SELECT id FROM t WHERE id - 1 < 0"), api.ErrOver)
}
