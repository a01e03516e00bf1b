package tree

import (
	"bytes"
	"slices"

	"stele/api"
)

// A page's bytes: the mark, its level, how many it has, and these; 0 behind.
// An entry's are the lengths of its key and its value, and both; a kid's are
// its sector, the higher byte first.
const (
	mark      = 't'
	headSize  = 3
	room      = api.Sector - headSize
	entryHead = 2
	kidSize   = 2
)

// tallest: level of a page. With two kids a page at least, a tree of a level
// more would have more pages than a disk has sectors.
const tallest = 11

// page: of level 0 it has entries in order, above it the pages of the level
// below, in order. It has no keys of these: they are read from there. So a kid
// takes the same room whatever lies beneath it, and pages above entries can
// always be joined or parted without those above them growing.
type page struct {
	at      int // its sector
	level   int
	entries []Entry
	kids    []int
}

// pageOf: the page that a sector is; left by ErrForm, if it is none.
func pageOf(b []byte) page {
	next := func(n int) []byte {
		need(n <= len(b), api.ErrForm)
		part := b[:n]
		b = b[n:]
		return part
	}
	head := next(headSize)
	p := page{level: int(head[1])}
	need(head[0] == mark && p.level <= tallest, api.ErrForm)
	for range int(head[2]) {
		if p.level == 0 {
			sizes := next(entryHead)
			p.entries = append(p.entries, Entry{next(int(sizes[0])), next(int(sizes[1]))})
		} else {
			sector := next(kidSize)
			p.kids = append(p.kids, int(sector[0])<<8|int(sector[1]))
		}
	}
	need(p.right() && len(bytes.Trim(b, "\x00")) == 0, api.ErrForm)
	return p
}

// right: may a tree have such a page?
func (p page) right() bool {
	if p.level > 0 {
		return len(p.kids) > 1
	}
	for k, e := range p.entries {
		if !isKey(e.Key) || !isItem(e.Key, e.Value) {
			return false
		}
		if k > 0 && bytes.Compare(p.entries[k-1].Key, e.Key) >= 0 {
			return false
		}
	}
	return len(p.entries) > 0
}

// sector: the bytes of a page that fits.
func (p page) sector() []byte {
	b := make([]byte, 0, api.Sector)
	b = append(b, mark, byte(p.level), byte(p.len()))
	for _, e := range p.entries {
		b = append(b, byte(len(e.Key)), byte(len(e.Value)))
		b = append(b, e.Key...)
		b = append(b, e.Value...)
	}
	for _, kid := range p.kids {
		b = append(b, byte(kid>>8), byte(kid))
	}
	return b[:api.Sector]
}

// len: how many entries or kids it has.
func (p page) len() int { return len(p.entries) + len(p.kids) }

// sizeOf: bytes of the entry, or the kid, of that place.
func (p page) sizeOf(k int) int {
	if p.level > 0 {
		return kidSize
	}
	return entryHead + len(p.entries[k].Key) + len(p.entries[k].Value)
}

// size: bytes of all of them.
func (p page) size() int {
	sum := 0
	for k := range p.len() {
		sum += p.sizeOf(k)
	}
	return sum
}

// fits: is there room for it in a sector?
func (p page) fits() bool { return p.size() <= room }

// slim: is it less than half full? Half of the kids that are one too many for
// a page are not.
func (p page) slim() bool { return p.size() < room/2 }

// find: the place of the key among the entries, and is it there?
func (p page) find(key []byte) (int, bool) {
	return slices.BinarySearchFunc(p.entries, key, func(e Entry, key []byte) int {
		return bytes.Compare(e.Key, key)
	})
}

// set: the entry stands in the place of the one of its key.
func (p *page) set(e Entry) {
	k, has := p.find(e.Key)
	if has {
		p.entries[k] = e
		return
	}
	p.entries = slices.Insert(p.entries, k, e)
}

// joined: a page of what p and the one behind it have.
func (p page) joined(behind page) page {
	return page{
		level:   p.level,
		entries: slices.Concat(p.entries, behind.entries),
		kids:    slices.Concat(p.kids, behind.kids),
	}
}

// halves: two pages of what p has.
func (p page) halves() (left, right page) {
	cut := func(from, to int) page {
		if p.level > 0 {
			return page{level: p.level, kids: p.kids[from:to]}
		}
		return page{entries: p.entries[from:to]}
	}
	at := p.middle()
	return cut(0, at), cut(at, p.len())
}

// middle: the place where the halves differ least, so that by at most one
// entry's bytes. What outgrew a page by one entry, of MaxItem bytes at most,
// fits into two then.
func (p page) middle() int {
	total, left := p.size(), 0
	best, least := 0, total+1
	for k := range p.len() - 1 {
		left += p.sizeOf(k)
		// Of two that are as good the later one, so that entries which come
		// in order leave the fuller page behind.
		if off := max(2*left-total, total-2*left); off <= least {
			best, least = k+1, off
		}
	}
	return best
}
