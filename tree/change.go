package tree

import "slices"

// put: the root of the tree with the entry.
func (g pages) put(root int, e Entry) int {
	if root == 0 {
		return g.add(page{entries: []Entry{e}})
	}
	p := g.read(root)
	behind := g.insert(p, e)
	if behind == 0 {
		return root
	}
	return g.add(page{level: p.level + 1, kids: []int{root, behind}})
}

// insert: the entry comes beneath p. If a page more is needed of p's level, it
// is the one behind p: its sector, else 0.
func (g pages) insert(p page, e Entry) int {
	if p.level == 0 {
		p.set(e)
		return g.keep(p)
	}
	k := g.find(p, e.Key)
	behind := g.insert(g.kid(p, k), e)
	if behind == 0 {
		return 0
	}
	p.kids = slices.Insert(p.kids, k+1, behind)
	return g.keep(p)
}

// keep: p is written; as halves, if it does not fit: the sector of the second
// one, else 0.
func (g pages) keep(p page) int {
	if p.fits() {
		g.write(p)
		return 0
	}
	left, right := p.halves()
	left.at = p.at
	g.write(left)
	return g.add(right)
}

// remove: the root of the tree without the key's entry, and was there one?
func (g pages) remove(root int, key []byte) (int, bool) {
	if root == 0 {
		return 0, false
	}
	p := g.read(root)
	if !g.without(&p, key) {
		return root, false
	}
	if p.len() == 0 {
		return 0, true
	}
	if p.level > 0 && p.len() == 1 {
		g.give(p)
		return p.kids[0], true
	}
	return root, true
}

// without: the key's entry goes from beneath p; false, if there is none.
func (g pages) without(p *page, key []byte) bool {
	if p.level > 0 {
		k := g.find(*p, key)
		kid := g.kid(*p, k)
		had := g.without(&kid, key)
		if had {
			g.mend(p, k, kid)
		}
		return had
	}
	k, had := p.find(key)
	if !had {
		return false
	}
	p.entries = slices.Delete(p.entries, k, k+1)
	if p.len() == 0 {
		g.give(*p)
	} else {
		g.write(*p)
	}
	return true
}

// pair: p's kid k, for some page p, and the one behind it.
type pair struct {
	k           int
	left, right page
}

// mend: p's kid k may have lost something. One that has nothing any more is no
// kid; one that is slim is joined with one beside it. Where that does not fit,
// the two share their kids, so that each page has two of them at least; of
// entries one is enough.
func (g pages) mend(p *page, k int, kid page) {
	if kid.len() == 0 {
		p.kids = slices.Delete(p.kids, k, k+1)
		g.write(*p)
		return
	}
	if !kid.slim() {
		return
	}
	pairs := g.beside(*p, k, kid)
	for _, two := range pairs {
		if whole := two.left.joined(two.right); whole.fits() {
			// The transaction has the kid's sector already.
			whole.at = kid.at
			g.join(p, two, whole)
			return
		}
	}
	if kid.level > 0 {
		g.share(pairs[0])
	}
}

// beside: p's kid k with the one ahead of it, and with the one behind it.
func (g pages) beside(p page, k int, kid page) []pair {
	var pairs []pair
	if k > 0 {
		pairs = append(pairs, pair{k - 1, g.kid(p, k-1), kid})
	}
	if k+1 < len(p.kids) {
		pairs = append(pairs, pair{k, kid, g.kid(p, k+1)})
	}
	return pairs
}

// join: two kids of p become one whole, in the sector of one of them.
func (g pages) join(p *page, two pair, whole page) {
	gone := two.left
	if gone.at == whole.at {
		gone = two.right
	}
	g.write(whole)
	g.give(gone)
	p.kids = slices.Replace(p.kids, two.k, two.k+2, whole.at)
	g.write(*p)
}

// share: both have half of their kids from now on.
func (g pages) share(two pair) {
	left, right := two.left.joined(two.right).halves()
	left.at, right.at = two.left.at, two.right.at
	g.write(left)
	g.write(right)
}
