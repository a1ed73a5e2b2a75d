package tree_test

import (
	"bytes"
	"fmt"
	"math"
	"slices"
	"sort"
	"strings"
	"testing"

	"padlock/api"
	"padlock/tree"
)

// die: numbers that look drawn, the same each time.
type die uint64

func (d *die) n(most int) int {
	*d = *d*6364136223846793005 + 1442695040888963407
	return int(uint64(*d>>33) % uint64(most))
}

// grow a tree by keys of a byte each; the rows are ten times as great.
func grow(t *testing.T, x api.Tree, l ...byte) api.Tree {
	t.Helper()
	for _, b := range l {
		y, e := tree.Insert(x, []byte{b}, 10*int(b))
		if e != api.OK || tree.Check(y) != api.OK {
			t.Fatalf("Insert(%v, %d) = %v, %d", x, b, y, e)
		}
		x = y
	}
	return x
}

// count from one byte on, up to another one.
func count(from, to byte) []byte {
	var l []byte
	for b := from; b <= to; b++ {
		l = append(l, b)
	}
	return l
}

func wantTree(t *testing.T, x api.Tree, want ...string) {
	t.Helper()
	pages, root := want[:len(want)-1], want[len(want)-1]
	if s := fmt.Sprint(x); s != "{["+strings.Join(pages, " ")+"] "+root+"}" {
		t.Errorf("%s\nwant %s", s, want)
	}
}

// P3.1: keys stand in the order of their bytes.
func TestOrder(t *testing.T) {
	long := bytes.Repeat([]byte{1}, api.MaxKey)
	l := [][]byte{{0}, {0, 0}, {0, 0, 0}, {0, 1}, {0, 255}, {1}, {1, 0}, long[:api.MaxKey-1], long, {1, 2}, {127}, {128}, {254, 255}, {255}, {255, 0}, bytes.Repeat([]byte{255}, api.MaxKey)}
	x := tree.New()
	d := die(1)
	places := make([]int, len(l))
	for i := range places {
		places[i] = i
	}
	for i := range places {
		j := i + d.n(len(places)-i)
		places[i], places[j] = places[j], places[i]
	}
	for _, i := range places {
		var e api.Errno
		if x, e = tree.Insert(x, l[i], i); e != api.OK {
			t.Fatalf("Insert(%d) = %d", l[i], e)
		}
	}
	all, e := tree.Scan(x, nil, nil)
	if len(all) != len(l) || e != api.OK {
		t.Fatalf("%v, %d", all, e)
	}
	for i, entry := range all {
		if !bytes.Equal(entry.Key, l[i]) || entry.Row != i {
			t.Errorf("entry %d: %v", i, entry)
		}
	}
}

// P3.4
func TestFind(t *testing.T) {
	x := threeLevels()
	for k, row := range map[byte]int{10: 0, 15: 1, 20: 2, 40: 3, 50: 3, 80: 4, 81: 5, 82: 6, 83: math.MaxInt} {
		if n, e := tree.Find(x, []byte{k}); n != row || e != api.OK {
			t.Errorf("Find(%d) = %d, %d", k, n, e)
		}
	}
	for _, c := range []struct {
		k    []byte
		want api.Errno
	}{
		{nil, api.ErrSize},
		{[]byte{}, api.ErrSize},
		{make([]byte, api.MaxKey+1), api.ErrSize},
		{make([]byte, 5000), api.ErrSize},
		{make([]byte, api.MaxKey), api.ErrNone},
		{[]byte{0}, api.ErrNone},
		{[]byte{10, 0}, api.ErrNone},
		{[]byte{12}, api.ErrNone},
		{[]byte{39}, api.ErrNone},
		{[]byte{60}, api.ErrNone}, // it parts, and that is all
		{[]byte{70}, api.ErrNone}, // a leaf without keys
		{[]byte{255}, api.ErrNone},
	} {
		if n, e := tree.Find(x, c.k); n != 0 || e != c.want {
			t.Errorf("Find(%d) = %d, %d, want %d", c.k, n, e, c.want)
		}
	}
}

// P3.5
func TestScan(t *testing.T) {
	x := threeLevels()
	for _, c := range []struct {
		from, to []byte
		want     string
	}{
		{nil, nil, "[{[10] 0} {[15] 1} {[20] 2} {[40] 3} {[50] 3} {[80] 4} {[81] 5} {[82] 6} {[83] 9223372036854775807}]"},
		{[]byte{}, []byte{20}, "[{[10] 0} {[15] 1} {[20] 2}]"},
		{nil, []byte{10}, "[{[10] 0}]"},
		{nil, []byte{9, 255}, "[]"},
		{[]byte{15}, []byte{40}, "[{[15] 1} {[20] 2} {[40] 3}]"},
		{[]byte{15, 0}, []byte{39, 255}, "[{[20] 2}]"},
		{[]byte{20}, []byte{20}, "[{[20] 2}]"},
		{[]byte{60}, []byte{80}, "[{[80] 4}]"},
		{[]byte{60}, []byte{79}, "[]"},
		{[]byte{82}, nil, "[{[82] 6} {[83] 9223372036854775807}]"},
		{[]byte{83, 0}, nil, "[]"},
		{[]byte{50}, []byte{40}, "[]"},
		{[]byte{83}, []byte{10}, "[]"},
		{make([]byte, api.MaxKey), bytes.Repeat([]byte{10}, api.MaxKey), "[{[10] 0}]"},
	} {
		if l, e := tree.Scan(x, c.from, c.to); fmt.Sprint(l) != c.want || e != api.OK {
			t.Errorf("Scan(%d, %d) = %v, %d, want %s", c.from, c.to, l, e, c.want)
		}
	}
	long := make([]byte, api.MaxKey+1)
	for _, b := range [][2][]byte{{long, nil}, {nil, long}, {long, long}, {[]byte{20}, long}, {long, []byte{20}}, {nil, make([]byte, 5000)}} {
		if l, e := tree.Scan(x, b[0], b[1]); len(l) > 0 || e != api.ErrSize {
			t.Errorf("Scan(%d, %d) = %v, %d", b[0], b[1], l, e)
		}
	}
	if l, e := tree.Scan(tree.New(), nil, nil); len(l) > 0 || e != api.OK {
		t.Errorf("Scan of none: %v, %d", l, e)
	}
}

// P3.5
func TestAbove(t *testing.T) {
	x := threeLevels()
	for _, c := range []struct {
		k    []byte
		want string
	}{
		{nil, "{[10] 0}"}, {[]byte{}, "{[10] 0}"}, {[]byte{0}, "{[10] 0}"}, {make([]byte, api.MaxKey), "{[10] 0}"},
		{[]byte{9, 255}, "{[10] 0}"}, {[]byte{10}, "{[15] 1}"}, {[]byte{10, 0}, "{[15] 1}"}, {[]byte{15}, "{[20] 2}"},
		{[]byte{20}, "{[40] 3}"}, {[]byte{39}, "{[40] 3}"}, {[]byte{40}, "{[50] 3}"},
		{[]byte{50}, "{[80] 4}"}, {[]byte{60}, "{[80] 4}"}, {[]byte{79}, "{[80] 4}"}, {[]byte{80}, "{[81] 5}"},
		{[]byte{82}, "{[83] 9223372036854775807}"},
	} {
		if l, e := tree.Above(x, c.k); fmt.Sprint(l) != c.want || e != api.OK {
			t.Errorf("Above(%d) = %v, %d, want %s", c.k, l, e, c.want)
		}
	}
	for _, c := range []struct {
		x    api.Tree
		k    []byte
		want api.Errno
	}{
		{x, make([]byte, api.MaxKey+1), api.ErrSize},
		{x, make([]byte, 5000), api.ErrSize},
		{tree.New(), make([]byte, api.MaxKey+1), api.ErrSize},
		{x, []byte{83}, api.ErrNone},
		{x, []byte{83, 0}, api.ErrNone},
		{x, bytes.Repeat([]byte{255}, api.MaxKey), api.ErrNone},
		{tree.New(), nil, api.ErrNone},
		{tree.New(), []byte{1}, api.ErrNone},
	} {
		if l, e := tree.Above(c.x, c.k); len(l.Key) > 0 || l.Row != 0 || e != c.want {
			t.Errorf("Above(%v, %d) = %v, %d, want %d", c.x, c.k, l, e, c.want)
		}
	}
}

// P3.6: a key in a leaf with room; within which bounds it goes.
func TestInsertWithRoom(t *testing.T) {
	wantTree(t, grow(t, tree.New(), 5), "{true [[5]] [50] [] -1}", "0")
	wantTree(t, grow(t, tree.New(), 5, 2, 9, 7), "{true [[2] [5] [7] [9]] [20 50 70 90] [] -1}", "0")
	x := threeLevels()
	for b, place := range map[byte]int{1: 3, 19: 3, 21: 0, 39: 0, 45: 4, 59: 4, 60: 1, 61: 1, 79: 1} {
		y := threeLevels()
		p := &y.Pages[place]
		at := sort.Search(len(p.Keys), func(i int) bool { return p.Keys[i][0] > b })
		p.Keys, p.Kids = slices.Insert(p.Keys, at, []byte{b}), slices.Insert(p.Kids, at, 10*int(b))
		if z := grow(t, x, b); fmt.Sprint(z) != fmt.Sprint(y) {
			t.Errorf("%d: %v\nwant %v", b, z, y)
		}
	}
}

// P3.6: a leaf that is the root is split, at whichever place the key is.
func TestSplitLeaf(t *testing.T) {
	for i := range 5 {
		l := []byte{10, 11, 12, 13, 14}
		x := grow(t, tree.New(), append(slices.Delete(slices.Clone(l), i, i+1), l[i])...)
		wantTree(t, x,
			"{true [[10] [11]] [100 110] [12] 1}",
			"{true [[12] [13] [14]] [120 130 140] [] -1}",
			"{false [[12]] [0 1] [] -1}", "2")
	}
}

// P3.6: a leaf below a page is split, in the middle: High and Next go on to the new page.
func TestSplitInner(t *testing.T) {
	x := grow(t, tree.New(), 10, 20, 30, 40, 50) // [10 20] [30 40 50]
	x = grow(t, x, 15, 12, 11)
	wantTree(t, x,
		"{true [[10] [11]] [100 110] [12] 3}",
		"{true [[30] [40] [50]] [300 400 500] [] -1}",
		"{false [[12] [30]] [0 3 1] [] -1}",
		"{true [[12] [15] [20]] [120 150 200] [30] 1}", "2")
}

// P3.6: pages above are split, the root, too, and one below it.
func TestSplitAbove(t *testing.T) {
	x := grow(t, tree.New(), count(0, 12)...)
	wantTree(t, x,
		"{true [[0] [1]] [0 10] [2] 1}",
		"{true [[2] [3]] [20 30] [4] 3}",
		"{false [[2] [4]] [0 1 3] [6] 7}",
		"{true [[4] [5]] [40 50] [6] 4}",
		"{true [[6] [7]] [60 70] [8] 5}",
		"{true [[8] [9]] [80 90] [10] 6}",
		"{true [[10] [11] [12]] [100 110 120] [] -1}",
		"{false [[8] [10]] [4 5 6] [] -1}",
		"{false [[6]] [2 7] [] -1}", "8")
	x = grow(t, x, count(13, 18)...)
	wantTree(t, x,
		"{true [[0] [1]] [0 10] [2] 1}",
		"{true [[2] [3]] [20 30] [4] 3}",
		"{false [[2] [4]] [0 1 3] [6] 7}",
		"{true [[4] [5]] [40 50] [6] 4}",
		"{true [[6] [7]] [60 70] [8] 5}",
		"{true [[8] [9]] [80 90] [10] 6}",
		"{true [[10] [11]] [100 110] [12] 9}",
		"{false [[8] [10]] [4 5 6] [12] 12}",
		"{false [[6] [12]] [2 7 12] [] -1}",
		"{true [[12] [13]] [120 130] [14] 10}",
		"{true [[14] [15]] [140 150] [16] 11}",
		"{true [[16] [17] [18]] [160 170 180] [] -1}",
		"{false [[14] [16]] [9 10 11] [] -1}", "8")
}

// P3.6: the first one of the kids of a page is split, so that what parts goes to the front.
func TestSplitFront(t *testing.T) {
	x := grow(t, tree.New(), 90, 80, 70, 60, 50, 40, 30, 20, 10)
	wantTree(t, x,
		"{true [[10] [20] [30]] [100 200 300] [40] 3}",
		"{true [[70] [80] [90]] [700 800 900] [] -1}",
		"{false [[40] [70]] [0 3 1] [] -1}",
		"{true [[40] [50] [60]] [400 500 600] [70] 1}", "2")
	wantTree(t, grow(t, x, 5, 1),
		"{true [[1] [5]] [10 50] [10] 4}",
		"{true [[70] [80] [90]] [700 800 900] [] -1}",
		"{false [[10] [40] [70]] [0 4 3 1] [] -1}",
		"{true [[40] [50] [60]] [400 500 600] [70] 1}",
		"{true [[10] [20] [30]] [100 200 300] [40] 3}", "2")
}

// P3.6
func TestInsertRefusals(t *testing.T) {
	long := make([]byte, api.MaxKey+1)
	for _, c := range []struct {
		k    []byte
		row  int
		want api.Errno
	}{
		{nil, 0, api.ErrSize}, {[]byte{}, 0, api.ErrSize}, {long, 0, api.ErrSize}, {make([]byte, 5000), 0, api.ErrSize},
		{nil, -1, api.ErrSize}, {long, -1, api.ErrSize},
		{[]byte{1}, -1, api.ErrRange}, {[]byte{1}, math.MinInt, api.ErrRange}, {[]byte{10}, -1, api.ErrRange},
		{[]byte{10}, 0, api.ErrTwice}, {[]byte{20}, 2, api.ErrTwice}, {[]byte{40}, 5, api.ErrTwice},
		{[]byte{80}, 0, api.ErrTwice}, {[]byte{83}, math.MaxInt, api.ErrTwice},
	} {
		x, e := tree.Insert(threeLevels(), c.k, c.row)
		wantNothing(t, fmt.Sprint("Insert ", c.k, c.row), x, e, c.want)
	}
	for _, k := range [][]byte{long[:api.MaxKey], {0}} {
		if x, e := tree.Insert(threeLevels(), k, 0); e != api.OK || tree.Check(x) != api.OK {
			t.Errorf("Insert(%d) = %v, %d", k, x, e)
		}
	}
}

// P3.6: there is room for MaxPages, for whatever needs no more.
func TestInsertFull(t *testing.T) {
	first, last := []byte{0, 0, 3}, []byte{255, 255, 255}
	for _, c := range []struct {
		leaves int
		k      []byte
		pages  int
		want   api.Errno
	}{
		{3196, first, api.MaxPages, api.OK},  // a leaf is split
		{3196, last, 0, api.ErrFull},         // and a page above it
		{3197, first, 0, api.ErrFull},        // there are as many as may be
		{3197, []byte{0}, 0, api.ErrFull},    // ahead of all
		{3197, []byte{0, 0}, 0, api.ErrFull}, // the key of a bound
		{3125, first, 3906 + 7, api.OK},      // all are full, from the leaf up to the root
	} {
		x := chain(c.leaves, api.MaxKeys)
		if _, e := tree.Insert(x, c.k, -1); e != api.ErrRange {
			t.Errorf("row -1: %d", e)
		}
		y, e := tree.Insert(x, c.k, 5)
		if c.want != api.OK {
			wantNothing(t, fmt.Sprint(c.leaves, c.k), y, e, c.want)
			continue
		}
		if n, f := tree.Find(y, c.k); len(y.Pages) != c.pages || e != c.want || n != 5 || f != api.OK || tree.Check(y) != api.OK {
			t.Errorf("%d, %d: %d pages, %d; %d, %d", c.leaves, c.k, len(y.Pages), e, n, f)
		}
	}
	x := chain(3197, api.MaxKeys)
	if _, e := tree.Insert(x, []byte{0, 0, 2}, 0); e != api.ErrTwice {
		t.Errorf("there already: %d", e)
	}
	if y, e := tree.Insert(chain(3197, api.MaxKeys-1), first, 5); e != api.OK || len(y.Pages) != api.MaxPages {
		t.Errorf("with room: %d", e)
	}
	if y, e := tree.Delete(x, []byte{0, 0, 2}); e != api.OK || len(y.Pages) != api.MaxPages {
		t.Errorf("Delete: %d", e)
	}
}

// P3.7
func TestDelete(t *testing.T) {
	for b, place := range map[byte]int{10: 3, 15: 3, 20: 0, 40: 4, 50: 4, 80: 7, 81: 7, 83: 7} {
		want := threeLevels()
		p := &want.Pages[place]
		at := bytes.IndexByte(bytes.Join(p.Keys, nil), b)
		p.Keys, p.Kids = slices.Delete(p.Keys, at, at+1), slices.Delete(p.Kids, at, at+1)
		x, e := tree.Delete(threeLevels(), []byte{b})
		if fmt.Sprint(x) != fmt.Sprint(want) || e != api.OK || tree.Check(x) != api.OK {
			t.Errorf("Delete(%d) = %v, %d", b, x, e)
		}
		if y, e := tree.Delete(x, []byte{b}); len(y.Pages) > 0 || e != api.ErrNone {
			t.Errorf("Delete(%d) twice = %v, %d", b, y, e)
		}
	}
	for _, c := range []struct {
		k    []byte
		want api.Errno
	}{
		{nil, api.ErrSize}, {[]byte{}, api.ErrSize}, {make([]byte, api.MaxKey+1), api.ErrSize},
		{make([]byte, api.MaxKey), api.ErrNone}, {[]byte{0}, api.ErrNone}, {[]byte{20, 0}, api.ErrNone},
		{[]byte{60}, api.ErrNone}, {[]byte{70}, api.ErrNone}, {[]byte{255}, api.ErrNone},
	} {
		x, e := tree.Delete(threeLevels(), c.k)
		wantNothing(t, fmt.Sprint("Delete ", c.k), x, e, c.want)
	}
}

// P3.7: a tree whose keys have all gone keeps its pages; what comes then goes to its old leaf.
func TestDeleteAll(t *testing.T) {
	x := grow(t, tree.New(), count(0, 5)...)
	for _, b := range []byte{2, 0, 5, 4, 1, 3} {
		var e api.Errno
		if x, e = tree.Delete(x, []byte{b}); e != api.OK || tree.Check(x) != api.OK {
			t.Fatalf("Delete(%d) = %v, %d", b, x, e)
		}
	}
	wantTree(t, x, "{true [] [] [2] 1}", "{true [] [] [] -1}", "{false [[2]] [0 1] [] -1}", "2")
	wantTree(t, grow(t, x, 2, 1), "{true [[1]] [10] [2] 1}", "{true [[2]] [20] [] -1}", "{false [[2]] [0 1] [] -1}", "2")
}

// P3.4 to P3.7 against a map of what stands there, over drawn keys.
func TestDrawn(t *testing.T) {
	d := die(7)
	x, rows := tree.New(), map[string]int{}
	for i := range 1500 {
		k := make([]byte, 1+d.n(3))
		for j := range k {
			k[j] = byte(d.n(7) * 42)
		}
		y, e := tree.Insert(x, k, i)
		want := api.OK
		if _, there := rows[string(k)]; there || i%500 > 350 {
			if want = api.ErrNone; there {
				want = api.OK
			}
			y, e = tree.Delete(x, k)
			delete(rows, string(k))
		} else {
			rows[string(k)] = i
		}
		if e != want || e == api.OK && tree.Check(y) != api.OK {
			t.Fatalf("step %d, key %d: %d, want %d; %v", i, k, e, want, y)
		}
		if e == api.OK {
			x = y
		}
		if i%20 == 0 {
			wantEntries(t, x, rows, k, []byte{byte(d.n(300)), byte(d.n(300))})
		}
	}
}

// wantEntries: the tree has just these rows; what is asked with two keys is as it is among them.
func wantEntries(t *testing.T, x api.Tree, rows map[string]int, from, to []byte) {
	t.Helper()
	var names []string
	for s := range rows {
		names = append(names, s)
	}
	sort.Strings(names)
	var all, some, above []api.Entry
	for _, s := range names {
		entry := api.Entry{Key: []byte(s), Row: rows[s]}
		all = append(all, entry)
		if s >= string(from) && s <= string(to) {
			some = append(some, entry)
		}
		if s > string(to) {
			above = append(above, entry)
		}
		if n, e := tree.Find(x, []byte(s)); n != rows[s] || e != api.OK {
			t.Fatalf("Find(%d) = %d, %d", []byte(s), n, e)
		}
	}
	if l, e := tree.Scan(x, nil, nil); fmt.Sprint(l) != fmt.Sprint(all) || e != api.OK {
		t.Fatalf("Scan = %v, %d, want %v", l, e, all)
	}
	if l, e := tree.Scan(x, from, to); fmt.Sprint(l) != fmt.Sprint(some) || e != api.OK {
		t.Fatalf("Scan(%d, %d) = %v, %d, want %v", from, to, l, e, some)
	}
	first, e := tree.Above(x, to)
	if len(above) == 0 {
		above, e = []api.Entry{{}}, e-api.ErrNone
	}
	if fmt.Sprint(first) != fmt.Sprint(above[0]) || e != api.OK {
		t.Fatalf("Above(%d) = %v, %d, want %v", to, first, e, above[0])
	}
}
