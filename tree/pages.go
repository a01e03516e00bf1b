package tree

import (
	"bytes"
	"sort"

	"stele/api"
	"stele/space"
)

// pages: those that a transaction has. What its methods can't do leaves by a
// panic, with the error.
type pages struct{ t *space.Tx }

// read: the page of sector i, which must be one that can be taken.
func (g pages) read(i int) page {
	need(i >= space.Area, api.ErrForm)
	b, e := g.t.Read(i)
	need(e == api.OK, e)
	p := pageOf(b)
	p.at = i
	return p
}

// kid: the page of p's kid k. It is of the level below, or one that names
// itself, or a page above it, would have no end.
func (g pages) kid(p page, k int) page {
	kid := g.read(p.kids[k])
	need(kid.level == p.level-1, api.ErrForm)
	return kid
}

// write: p comes to its sector.
func (g pages) write(p page) {
	e := g.t.Write(p.at, p.sector())
	need(e == api.OK, e)
}

// add: p comes to a sector that is taken for it.
func (g pages) add(p page) int {
	i, e := g.t.Take()
	need(e == api.OK, e)
	p.at = i
	g.write(p)
	return i
}

// give: the sector of p is given back.
func (g pages) give(p page) {
	e := g.t.Give(p.at)
	need(e == api.OK, e)
}

// first: the least key beneath p.
func (g pages) first(p page) []byte {
	for p.level > 0 {
		p = g.kid(p, 0)
	}
	return p.entries[0].Key
}

// find: the kid of p that the key belongs beneath: the last one that begins
// with no greater key, or the first.
func (g pages) find(p page, key []byte) int {
	return sort.Search(len(p.kids)-1, func(k int) bool {
		return bytes.Compare(g.first(g.kid(p, k+1)), key) > 0
	})
}

// get: the value of the key, and is there one?
func (g pages) get(root int, key []byte) ([]byte, bool) {
	if root == 0 {
		return nil, false
	}
	p := g.read(root)
	for p.level > 0 {
		p = g.kid(p, g.find(p, key))
	}
	k, has := p.find(key)
	if !has {
		return nil, false
	}
	return bytes.Clone(p.entries[k].Value), true
}
