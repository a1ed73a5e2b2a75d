package tree_test

import (
	"bytes"
	"fmt"
	"slices"
	"testing"
	"unsafe"

	"padlock/api"
	"padlock/tree"
)

// span of memory, of a list and its spare room.
type span struct{ from, to uintptr }

func room[T any](l []T) span {
	var one T
	from := uintptr(unsafe.Pointer(unsafe.SliceData(l)))
	return span{from, from + uintptr(cap(l))*unsafe.Sizeof(one)}
}

// rooms of all lists of a tree, of keys in spare room, too.
func rooms(x api.Tree) []span {
	l := []span{room(x.Pages)}
	for _, p := range x.Pages {
		l = append(l, room(p.Keys), room(p.Kids), room(p.High))
		for _, k := range p.Keys[:cap(p.Keys)] {
			l = append(l, room(k))
		}
	}
	return l
}

// wantApart: no two share memory.
func wantApart(t *testing.T, name string, l ...[]span) {
	t.Helper()
	all := slices.Concat(l...)
	all = slices.DeleteFunc(all, func(s span) bool { return s.from == s.to })
	slices.SortFunc(all, func(a, b span) int { return int(a.from) - int(b.from) })
	for i := range len(all) - 1 {
		if all[i].to > all[i+1].from {
			t.Errorf("%s: lists share memory", name)
			return
		}
	}
}

// spare: the same key, with room behind it.
func spare(k ...byte) []byte {
	return append(append(make([]byte, 0, len(k)+3), k...), 7, 7, 7)[:len(k)]
}

// spared: the same tree, each list with room behind it.
func spared(x api.Tree) api.Tree {
	pages := make([]api.Page, 0, len(x.Pages)+2)
	for _, p := range x.Pages {
		keys := make([][]byte, 0, len(p.Keys)+2)
		for _, k := range p.Keys {
			keys = append(keys, spare(k...))
		}
		kids := append(append(make([]int, 0, len(p.Kids)+2), p.Kids...), 7, 7)[:len(p.Kids)]
		p.Keys, p.Kids, p.High = append(keys, spare(7), spare(7))[:len(keys)], kids, spare(p.High...)
		pages = append(pages, p)
	}
	return api.Tree{Pages: append(pages, api.Page{Next: 7}, api.Page{Next: 7})[:len(pages)], Root: x.Root}
}

// whole: all of a tree, spare room, too.
func whole(x api.Tree) string {
	var s string
	for _, p := range x.Pages[:cap(x.Pages)] {
		s += fmt.Sprint(p.Leaf, p.Keys[:cap(p.Keys)], p.Kids[:cap(p.Kids)], p.High[:cap(p.High)], p.Next)
		for _, k := range p.Keys[:cap(p.Keys)] {
			s += fmt.Sprint(k[:cap(k)])
		}
	}
	return s + fmt.Sprint(x.Root)
}

// What is handed in stays as it is, spare room too, and no two lists that come out share any memory, nor any with that.
func TestMemory(t *testing.T) {
	leafFull := grow(t, tree.New(), 0, 1, 4, 5, 8, 9, 12, 13, 16, 17)
	rootFull := grow(t, leafFull, 20, 24)
	for _, x := range []api.Tree{tree.New(), threeLevels(), leafFull, rootFull, chain(25, api.MaxKeys)} {
		x = spared(x)
		was := whole(x)
		for _, b := range []byte{0, 2, 7, 15, 21, 40, 82, 84} {
			k, high := spare(b), spare(200)
			in := [][]span{rooms(x), {room(k)}, {room(high)}}
			y, e := tree.Insert(x, k, 5)
			z, f := tree.Delete(x, k)
			again, g := tree.Insert(x, k, 5)
			if e != g || fmt.Sprint(y) != fmt.Sprint(again) {
				t.Errorf("%v, %d and %v, %d", y, e, again, g)
			}
			wantApart(t, fmt.Sprint("trees ", b), append(in, rooms(y), rooms(z), rooms(again))...)
			out := slices.Clone(in)
			for range 2 {
				l, _ := tree.Scan(x, k, high)
				first, _ := tree.Above(x, k)
				out = append(out, []span{room(l), room(first.Key)})
				for _, entry := range l {
					out = append(out, []span{room(entry.Key)})
				}
			}
			wantApart(t, fmt.Sprint("entries ", b), out...)
			if is := whole(x); is != was || !bytes.Equal(k[:cap(k)], []byte{b, 7, 7, 7}) || !bytes.Equal(high[:cap(high)], []byte{200, 7, 7, 7}) {
				t.Errorf("%d (%d, %d): %s\nwas %s", b, e, f, is, was)
			}
		}
	}
	wantApart(t, "new", rooms(tree.New()), rooms(tree.New()))
}
