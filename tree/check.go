package tree

import (
	"bytes"
	"slices"

	"padlock/api"
)

// stand: a page, and the bounds that the pages above set it (empty: there is none).
type stand struct {
	page      int
	low, high []byte
}

// Check a tree.
func Check(t api.Tree) api.Errno {
	if len(t.Pages) > api.MaxPages || t.Root < 0 || t.Root >= len(t.Pages) {
		return api.ErrState
	}
	for _, p := range t.Pages {
		if !keysMayBe(p.Keys) || !kidsMayBe(p, len(t.Pages)) {
			return api.ErrState
		}
	}
	if !levelsMayBe(t) {
		return api.ErrState
	}
	return api.OK
}

// keysMayBe: are there not too many, and do they rise?
func keysMayBe(keys [][]byte) bool {
	if len(keys) > api.MaxKeys {
		return false
	}
	var last []byte
	for _, k := range keys {
		if !isKey(k) || bytes.Compare(last, k) >= 0 {
			return false
		}
		last = k
	}
	return true
}

// kidsMayBe: has a page, one of so many, as many kids as its keys ask for, and may each be one?
func kidsMayBe(p api.Page, pages int) bool {
	if p.Leaf {
		noRow := func(kid int) bool { return kid < 0 }
		return len(p.Kids) == len(p.Keys) && !slices.ContainsFunc(p.Kids, noRow)
	}
	noPage := func(kid int) bool { return kid < 0 || kid >= pages }
	return len(p.Keys) > 0 && len(p.Kids) == len(p.Keys)+1 && !slices.ContainsFunc(p.Kids, noPage)
}

// levelsMayBe: level by level from the root down, so that pages that lead back to themselves come to an end, too.
func levelsMayBe(t api.Tree) bool {
	met := make(map[int]struct{}, len(t.Pages))
	for level := []stand{{page: t.Root}}; len(level) > 0; level = below(t, level) {
		if !meet(met, level) || !levelMayBe(t, level) {
			return false
		}
	}
	return len(met) == len(t.Pages)
}

// meet the pages of a level: was none of them met before?
func meet(met map[int]struct{}, level []stand) bool {
	for _, s := range level {
		if _, twice := met[s.page]; twice {
			return false
		}
		met[s.page] = struct{}{}
	}
	return true
}

// levelMayBe: are all of a level leaves or none, each with its neighbour, and within its bounds?
func levelMayBe(t api.Tree, level []stand) bool {
	next := -1
	for _, s := range slices.Backward(level) {
		p := t.Pages[s.page]
		if p.Leaf != t.Pages[level[0].page].Leaf || p.Next != next || !holds(s, p) {
			return false
		}
		next = s.page
	}
	return true
}

// holds: has a page the bounds of where it stands?
func holds(s stand, p api.Page) bool {
	within := func(k []byte) bool {
		return bytes.Compare(s.low, k) <= 0 && (len(s.high) == 0 || bytes.Compare(k, s.high) < 0)
	}
	for _, k := range p.Keys {
		if !within(k) {
			return false
		}
	}
	return bytes.Equal(p.High, s.high)
}

// below: the kids of a level's pages, in order; leaves have none.
func below(t api.Tree, level []stand) []stand {
	var l []stand
	for _, s := range level {
		p := t.Pages[s.page]
		if p.Leaf {
			continue
		}
		low := s.low
		for i, k := range p.Keys {
			l = append(l, stand{p.Kids[i], low, k})
			low = k
		}
		l = append(l, stand{p.Kids[len(p.Keys)], low, s.high})
	}
	return l
}
