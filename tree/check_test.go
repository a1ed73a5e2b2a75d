package tree_test

import (
	"bytes"
	"fmt"
	"math"
	"slices"
	"testing"

	"padlock/api"
	"padlock/tree"
)

// threeLevels: a tree that may be; its root stands in the middle, its pages in no order.
//
//	                    5: [40]
//	       2: [20]                  6: [60 80]
//	3: [10 15]  0: [20]   4: [40 50]  1: []  7: [80 81 82 83]
func threeLevels() api.Tree {
	return api.Tree{Root: 5, Pages: []api.Page{
		{Leaf: true, Keys: keys(20), Kids: []int{2}, High: []byte{40}, Next: 4},
		{Leaf: true, High: []byte{80}, Next: 7},
		{Keys: keys(20), Kids: []int{3, 0}, High: []byte{40}, Next: 6},
		{Leaf: true, Keys: keys(10, 15), Kids: []int{0, 1}, High: []byte{20}, Next: 0},
		{Leaf: true, Keys: keys(40, 50), Kids: []int{3, 3}, High: []byte{60}, Next: 1},
		{Keys: keys(40), Kids: []int{2, 6}, Next: -1},
		{Keys: keys(60, 80), Kids: []int{4, 1, 7}, Next: -1},
		{Leaf: true, Keys: keys(80, 81, 82, 83), Kids: []int{4, 5, 6, math.MaxInt}, Next: -1},
	}}
}

// keys of a byte each.
func keys(l ...byte) [][]byte {
	var out [][]byte
	for _, b := range l {
		out = append(out, []byte{b})
	}
	return out
}

// chain: a tree of so many leaves in the least number of pages; each leaf has so many keys.
func chain(leaves, each int) api.Tree {
	var t api.Tree
	var level []int
	var lows [][]byte // of the pages of a level: the bound below
	for i := range leaves {
		p := api.Page{Leaf: true, Next: -1}
		for j := range each {
			p.Keys = append(p.Keys, []byte{byte(i >> 8), byte(i), byte(2*j + 2)})
			p.Kids = append(p.Kids, i)
		}
		level, lows = append(level, i), append(lows, []byte{byte(i >> 8), byte(i)})
		t.Pages = append(t.Pages, p)
	}
	for {
		for i, place := range level[:len(level)-1] {
			t.Pages[place].Next = level[i+1]
			t.Pages[place].High = slices.Clone(lows[i+1])
		}
		if len(level) == 1 {
			t.Root = level[0]
			return t
		}
		n, groups := len(level), (len(level)+api.MaxKeys)/(api.MaxKeys+1)
		var above []int
		var aboveLows [][]byte
		for g := range groups {
			from, to := g*n/groups, (g+1)*n/groups
			p := api.Page{Kids: slices.Clone(level[from:to]), Next: -1}
			for _, low := range lows[from+1 : to] {
				p.Keys = append(p.Keys, slices.Clone(low))
			}
			above, aboveLows = append(above, len(t.Pages)), append(aboveLows, lows[from])
			t.Pages = append(t.Pages, p)
		}
		level, lows = above, aboveLows
	}
}

// P3.2
func TestNew(t *testing.T) {
	if s := fmt.Sprint(tree.New()); s != "{[{true [] [] [] -1}] 0}" {
		t.Error(s)
	}
	if e := tree.Check(tree.New()); e != api.OK {
		t.Error(e)
	}
}

// P3.1, P3.3: trees that may be.
func TestMayBe(t *testing.T) {
	long := bytes.Repeat([]byte{9}, api.MaxKey)
	leaf := func(l [][]byte, rows ...int) api.Tree {
		return api.Tree{Pages: []api.Page{{Leaf: true, Keys: l, Kids: rows, Next: -1}}}
	}
	low := threeLevels() // a page whose key is its lower bound: its first kid has bounds that nothing is within
	low.Pages[6].Keys[0] = []byte{40}
	low.Pages[4] = api.Page{Leaf: true, High: []byte{40}, Next: 1}
	empty := threeLevels()
	for i, p := range empty.Pages {
		if p.Leaf {
			empty.Pages[i].Keys, empty.Pages[i].Kids, empty.Pages[i].High = [][]byte{}, []int{}, append([]byte{}, p.High...)
		}
	}
	for i, x := range []api.Tree{
		threeLevels(), low, empty,
		leaf(nil), leaf(keys(0), 0), leaf(keys(0, 255), 7, 7), leaf(keys(1, 2, 3, 4), 3, 2, 1, 0),
		leaf([][]byte{{1}, {1, 0}, {1, 0, 0}, {1, 1}}, 0, 1, 2, 3),
		leaf([][]byte{{0}, long}, 0, 1),
		{Pages: []api.Page{{Leaf: true, High: []byte{}, Keys: [][]byte{}, Kids: []int{}, Next: -1}}},
		chain(1, 1), chain(2, 0), chain(5, 4), chain(6, 4), chain(125, 1), chain(3197, 1),
	} {
		if e := tree.Check(x); e != api.OK {
			t.Errorf("tree %d: %d", i, e)
		}
	}
	if n := len(chain(3197, 1).Pages); n != api.MaxPages {
		t.Errorf("the greatest tree has %d pages", n)
	}
}

// P3.3: each way of spoiling a tree that may be; P3.4 to P3.7: what may not be is refused ahead of all else.
func TestMayNotBe(t *testing.T) {
	long := bytes.Repeat([]byte{9}, api.MaxKey+1)
	for name, spoil := range map[string]func(x *api.Tree){
		"no pages":              func(x *api.Tree) { x.Pages = nil },
		"no pages, root 0":      func(x *api.Tree) { *x = api.Tree{Pages: []api.Page{}} },
		"too many pages":        func(x *api.Tree) { *x = chain(3198, 1) },
		"root below":            func(x *api.Tree) { x.Root = -1 },
		"root far below":        func(x *api.Tree) { x.Root = math.MinInt },
		"root behind":           func(x *api.Tree) { x.Root = 8 },
		"root far behind":       func(x *api.Tree) { x.Root = math.MaxInt },
		"root is another page":  func(x *api.Tree) { x.Root = 6 },
		"root is a leaf":        func(x *api.Tree) { x.Root = 7 },
		"pages zero":            func(x *api.Tree) { clear(x.Pages) },
		"a page zero":           func(x *api.Tree) { x.Pages[1] = api.Page{} },
		"keys: too many":        func(x *api.Tree) { fill(x, 7, keys(80, 81, 82, 83, 84), 0, 0, 0, 0, 0) },
		"keys: far too many":    func(x *api.Tree) { x.Pages[7].Keys = make([][]byte, 5000) },
		"keys: the same":        func(x *api.Tree) { fill(x, 4, keys(50, 50), 3, 3) },
		"keys: falling":         func(x *api.Tree) { fill(x, 4, keys(50, 40), 3, 3) },
		"keys: longer ahead":    func(x *api.Tree) { fill(x, 4, [][]byte{{50, 0}, {50}}, 3, 3) },
		"keys: the same above":  func(x *api.Tree) { x.Pages[6].Keys = keys(60, 60) },
		"keys: falling above":   func(x *api.Tree) { x.Pages[6].Keys = keys(80, 60) },
		"key: empty":            func(x *api.Tree) { fill(x, 3, [][]byte{{}, {10}}, 0, 1) },
		"key: nil":              func(x *api.Tree) { fill(x, 3, [][]byte{nil}, 0) },
		"key: too long":         func(x *api.Tree) { fill(x, 3, [][]byte{long}, 0) },
		"key: too long above":   func(x *api.Tree) { x.Pages[5].Keys[0], x.Pages[2].High, x.Pages[0].High = long, long, long },
		"leaf: a row too few":   func(x *api.Tree) { x.Pages[4].Kids = []int{3} },
		"leaf: a row too many":  func(x *api.Tree) { x.Pages[4].Kids = []int{3, 3, 3} },
		"leaf: a row of no key": func(x *api.Tree) { x.Pages[1].Kids = []int{1} },
		"leaf: row below 0":     func(x *api.Tree) { x.Pages[4].Kids[1] = -1 },
		"leaf: row far below 0": func(x *api.Tree) { x.Pages[0].Kids[0] = math.MinInt },
		"above: no keys":        func(x *api.Tree) { *x = oneKid() },
		"above: no kids":        func(x *api.Tree) { x.Pages[2].Keys, x.Pages[2].Kids = nil, nil },
		"above: a kid too few":  func(x *api.Tree) { x.Pages[6].Kids = []int{4, 1} },
		"above: a kid too many": func(x *api.Tree) { x.Pages[6].Kids = []int{4, 1, 7, 7} },
		"above: kid below 0":    func(x *api.Tree) { x.Pages[6].Kids[1] = -1 },
		"above: kid no page":    func(x *api.Tree) { x.Pages[6].Kids[1] = 8 },
		"above: kid far off":    func(x *api.Tree) { x.Pages[6].Kids[1] = math.MaxInt },
		"met: itself":           func(x *api.Tree) { x.Pages[2].Kids[1] = 2 },
		"met: the root":         func(x *api.Tree) { x.Pages[2].Kids[1] = 5 },
		"met: a leaf twice":     func(x *api.Tree) { x.Pages[2].Kids[1] = 3 },
		"met: a page twice":     func(x *api.Tree) { x.Pages[5].Kids = []int{2, 2} },
		"met: leaves crossed":   func(x *api.Tree) { x.Pages[6].Kids = []int{1, 4, 7} },
		"met: never":            func(x *api.Tree) { x.Pages = append(x.Pages, api.Page{Leaf: true, Next: -1}) },
		"met: never, in a ring": func(x *api.Tree) { x.Pages = append(x.Pages, api.Page{Keys: keys(1), Kids: []int{8, 8}, Next: -1}) },
		"depth: leaf above":     func(x *api.Tree) { *x = lame(false) },
		"depth: leaf first":     func(x *api.Tree) { *x = lame(true) },
		"depth: leaf says no":   func(x *api.Tree) { x.Pages[7].Leaf = false },
		"depth: page says leaf": func(x *api.Tree) { x.Pages[2].Leaf = true },
		"below: leaf":           func(x *api.Tree) { x.Pages[4].Keys[0] = []byte{39} },
		"below: leaf, longer":   func(x *api.Tree) { x.Pages[4].Keys[0] = []byte{39, 255, 255} },
		"below: leaf of a page": func(x *api.Tree) { x.Pages[0].Keys[0] = []byte{19} },
		"below: middle leaf":    func(x *api.Tree) { fill(x, 1, keys(59), 0) },
		"below: last leaf":      func(x *api.Tree) { x.Pages[7].Keys[0] = []byte{79} },
		"below: page": func(x *api.Tree) {
			x.Pages[6].Keys[0], x.Pages[4] = []byte{39}, api.Page{Leaf: true, High: []byte{39}, Next: 1}
		},
		"not below: first leaf": func(x *api.Tree) { x.Pages[3].Keys[1] = []byte{20} },
		"not below: leaf":       func(x *api.Tree) { x.Pages[4].Keys[1] = []byte{60} },
		"not below: longer":     func(x *api.Tree) { x.Pages[4].Keys[1] = []byte{60, 0} },
		"not below: middle":     func(x *api.Tree) { fill(x, 1, keys(80), 0) },
		"not below: end":        func(x *api.Tree) { x.Pages[0].Keys[0] = []byte{40} },
		"not below: page": func(x *api.Tree) {
			x.Pages[2].Keys[0], x.Pages[3].High, x.Pages[0] = []byte{40}, []byte{40}, api.Page{Leaf: true, High: []byte{40}, Next: 4}
		},
		"high: none":            func(x *api.Tree) { x.Pages[3].High = nil },
		"high: lower":           func(x *api.Tree) { x.Pages[3].High = []byte{19} },
		"high: longer":          func(x *api.Tree) { x.Pages[3].High = []byte{20, 0} },
		"high: of the page":     func(x *api.Tree) { x.Pages[0].High = nil },
		"high: page":            func(x *api.Tree) { x.Pages[2].High = nil },
		"high: page, other":     func(x *api.Tree) { x.Pages[2].High = []byte{41} },
		"high: last leaf":       func(x *api.Tree) { x.Pages[7].High = []byte{99} },
		"high: last page":       func(x *api.Tree) { x.Pages[6].High = []byte{99} },
		"high: root":            func(x *api.Tree) { x.Pages[5].High = []byte{99} },
		"high: leaf alone":      func(x *api.Tree) { *x = api.Tree{Pages: []api.Page{{Leaf: true, High: []byte{9}, Next: -1}}} },
		"next: none":            func(x *api.Tree) { x.Pages[3].Next = -1 },
		"next: itself":          func(x *api.Tree) { x.Pages[3].Next = 3 },
		"next: one too far":     func(x *api.Tree) { x.Pages[3].Next = 4 },
		"next: not over pages":  func(x *api.Tree) { x.Pages[0].Next = -1 },
		"next: page, none":      func(x *api.Tree) { x.Pages[2].Next = -1 },
		"next: page, deeper":    func(x *api.Tree) { x.Pages[2].Next = 4 },
		"next: of the last one": func(x *api.Tree) { x.Pages[7].Next = 0 },
		"next: of the root":     func(x *api.Tree) { x.Pages[5].Next = 5 },
		"next: far off":         func(x *api.Tree) { x.Pages[7].Next = math.MaxInt },
		"next: far below":       func(x *api.Tree) { x.Pages[7].Next = math.MinInt },
		"next: below -1":        func(x *api.Tree) { x.Pages[7].Next = -2 },
		"next: leaf alone":      func(x *api.Tree) { *x = api.Tree{Pages: []api.Page{{Leaf: true}}} },
	} {
		x := threeLevels()
		spoil(&x)
		wantRefused(t, name, x)
	}
}

// fill a leaf.
func fill(x *api.Tree, place int, l [][]byte, rows ...int) {
	x.Pages[place].Keys, x.Pages[place].Kids = l, rows
}

// oneKid: a root without keys, and its only kid.
func oneKid() api.Tree {
	return api.Tree{Root: 1, Pages: []api.Page{{Leaf: true, Next: -1}, {Kids: []int{0}, Next: -1}}}
}

// lame: a tree of which one side is deeper, all else as it has to be: the first one of the root's kids is a leaf, or the last one.
func lame(first bool) api.Tree {
	if first {
		return api.Tree{Pages: []api.Page{
			{Keys: keys(40), Kids: []int{1, 2}, Next: -1},
			{Leaf: true, High: []byte{40}, Next: 2},
			{Keys: keys(60), Kids: []int{3, 4}, Next: -1},
			{Leaf: true, High: []byte{60}, Next: 4},
			{Leaf: true, Next: -1},
		}}
	}
	return api.Tree{Pages: []api.Page{
		{Keys: keys(40), Kids: []int{1, 2}, Next: -1},
		{Keys: keys(20), Kids: []int{3, 4}, High: []byte{40}, Next: 2},
		{Leaf: true, Next: -1},
		{Leaf: true, High: []byte{20}, Next: 4},
		{Leaf: true, High: []byte{40}, Next: -1},
	}}
}

// wantRefused: each call refuses the tree, whatever else it is handed, and answers nothing more.
func wantRefused(t *testing.T, name string, x api.Tree) {
	t.Helper()
	was := fmt.Sprint(x)
	if e := tree.Check(x); e != api.ErrState {
		t.Errorf("%s: Check = %d", name, e)
	}
	for _, k := range [][]byte{nil, {15}, {50}, {99}, bytes.Repeat([]byte{1}, api.MaxKey+1)} {
		for _, row := range []int{0, -1} {
			y, e := tree.Insert(x, k, row)
			wantNothing(t, name, y, e, api.ErrState)
		}
		y, e := tree.Delete(x, k)
		wantNothing(t, name, y, e, api.ErrState)
		if n, e := tree.Find(x, k); n != 0 || e != api.ErrState {
			t.Errorf("%s: Find(%d) = %d, %d", name, k, n, e)
		}
		if l, e := tree.Scan(x, k, k); len(l) > 0 || e != api.ErrState {
			t.Errorf("%s: Scan(%d) = %v, %d", name, k, l, e)
		}
		if l, e := tree.Above(x, k); len(l.Key) > 0 || l.Row != 0 || e != api.ErrState {
			t.Errorf("%s: Above(%d) = %v, %d", name, k, l, e)
		}
	}
	if is := fmt.Sprint(x); is != was {
		t.Errorf("%s: %s was %s", name, is, was)
	}
}

// wantNothing: no tree, and the error.
func wantNothing(t *testing.T, name string, x api.Tree, e, want api.Errno) {
	t.Helper()
	if len(x.Pages) > 0 || x.Root != 0 || e != want {
		t.Errorf("%s: %v, %d, want %d", name, x, e, want)
	}
}

// P3.3: of a small tree all trees in which one number is another one: none but itself may be, but where the number is a row.
func TestNumbers(t *testing.T) {
	was := fmt.Sprint(threeLevels())
	for n := -2; n < 10; n++ {
		for place := range threeLevels().Pages {
			x := threeLevels()
			x.Pages[place].Next = n
			wantSame(t, x, was)
			for kid := range x.Pages[place].Kids {
				x := threeLevels()
				x.Pages[place].Kids[kid] = n
				if !x.Pages[place].Leaf {
					wantSame(t, x, was)
				} else if e := tree.Check(x); (e == api.OK) != (n >= 0) {
					t.Errorf("%v: %d", x, e)
				}
			}
		}
		x := threeLevels()
		x.Root = n
		wantSame(t, x, was)
	}
}

// wantSame: the tree may be just if it is the same as before.
func wantSame(t *testing.T, x api.Tree, was string) {
	t.Helper()
	want := api.ErrState
	if fmt.Sprint(x) == was {
		want = api.OK
	}
	if e := tree.Check(x); e != want {
		t.Errorf("%v: %d, want %d", x, e, want)
	}
}
