package tree

import (
	"bytes"

	"stele/api"
)

// walk: a way through the pages of a tree, from above, and from the left.
type walk struct {
	pages
	last []byte // the greatest key so far
}

// scan: the entries from the first on that is not below from, at most so many.
func (g pages) scan(root int, from []byte, most int) []Entry {
	var l []Entry
	if root == 0 {
		return l
	}
	w := walk{pages: g}
	w.each(g.read(root), from, func(p page) bool {
		k, _ := p.find(from)
		for ; k < len(p.entries) && len(l) < most; k++ {
			l = append(l, copied(p.entries[k]))
		}
		return len(l) < most
	})
	return l
}

// count: how many pages the tree has.
func (g pages) count(root int) int {
	n := 0
	if root == 0 {
		return n
	}
	w := walk{pages: g}
	w.each(g.read(root), nil, func(page) bool {
		n++
		return true
	})
	return n
}

// each: p and the pages beneath it, from where the key from belongs on, are
// visited, till visit says false.
func (w *walk) each(p page, from []byte, visit func(p page) bool) bool {
	w.check(p)
	if !visit(p) {
		return false
	}
	for k := w.find(p, from); k < len(p.kids); k++ {
		if !w.each(w.kid(p, k), from, visit) {
			return false
		}
	}
	return true
}

// check: the keys of p come behind those so far. A page that two others name
// would be come to twice, and pages of such could be gone through without end.
func (w *walk) check(p page) {
	if p.level > 0 {
		return
	}
	need(bytes.Compare(w.last, p.entries[0].Key) < 0, api.ErrForm)
	w.last = p.entries[len(p.entries)-1].Key
}
