package tree_test

import (
	"bytes"
	"fmt"
	"maps"
	"slices"
	"strings"
	"testing"

	"stele/api"
	"stele/disk"
	"stele/journal"
	"stele/space"
	"stele/tree"
)

// What the document's words say, on paper: the entries of a tree in a map of texts, beside the tree on its disk.

const (
	size    = 512  // bytes of a sector
	most    = 48   // sectors of a transaction
	chart   = 49   // the map's sector
	area    = 51   // the first sector that is given out
	small   = 64   // sectors of the smallest disk
	roomy   = 256  // sectors of one with room for some
	great   = 4096 // sectors of the greatest
	longest = 100  // bytes of a key
	item    = 240  // bytes of a key and its value
)

// paper: a tree on a disk of its own, and what it has.
type paper struct {
	t       *testing.T
	d       *disk.Disk
	j       *journal.Journal
	x       *space.Tx
	root    int
	sectors int
	has     map[string]string
	keys    []string // of has, in order; nil, if they are not known
}

// mounted: a new disk, with an empty tree and a transaction.
func mounted(t *testing.T, sectors int) *paper {
	t.Helper()
	d, e := disk.New(sectors)
	if e != api.OK {
		t.Fatalf("disk of %d: %d", sectors, e)
	}
	p := &paper{t: t, d: d, sectors: sectors, has: map[string]string{}}
	return p.mount()
}

func (p *paper) mount() *paper {
	p.t.Helper()
	j, e := journal.Mount(p.d)
	if e != api.OK {
		p.t.Fatalf("Mount: %d", e)
	}
	p.j = j
	return p.open()
}

func (p *paper) open() *paper {
	p.t.Helper()
	x, e := space.Open(p.j)
	if e != api.OK {
		p.t.Fatalf("Open: %d", e)
	}
	p.x = x
	return p
}

// done: the transaction is committed, and another one opened.
func (p *paper) done() *paper {
	p.t.Helper()
	if e := p.x.Commit(); e != api.OK {
		p.t.Fatalf("Commit: %d", e)
	}
	return p.open()
}

// again: committed, and the disk mounted anew behind a crash.
func (p *paper) again() *paper {
	p.t.Helper()
	p.done()
	p.d.Crash(nil)
	return p.mount()
}

// spoil: what was handed in or out, spare room too, so that one who kept it is found out later.
func spoil(b []byte) {
	b = b[:cap(b)]
	for i := range b {
		b[i] ^= 0xa5
	}
}

// roomOf: the bytes of a text, with others behind them that are not to be changed.
func roomOf(s string) (b []byte, same func() bool) {
	all := append([]byte(s), "what is behind the bytes"...)
	elder := string(all)
	return all[:len(s)], func() bool { return string(all) == elder }
}

// put: the entry is there from now on; nothing that was handed in is changed or kept.
func (p *paper) put(key, value string) {
	p.t.Helper()
	k, sameKey := roomOf(key)
	v, sameValue := roomOf(value)
	root, e := tree.Put(p.x, p.root, k, v)
	if e != api.OK || root < area || root >= p.sectors {
		p.t.Fatalf("Put(%q, %d bytes) of %d entries: %d, %d", key, len(value), len(p.has), root, e)
	}
	if !sameKey() || !sameValue() {
		p.t.Fatalf("Put(%q): the key, the value or what is behind them was changed", key)
	}
	spoil(k)
	spoil(v)
	p.root = root
	p.set(key, value)
	p.gets(key)
}

// del: the entry is gone from now on, if there was one.
func (p *paper) del(key string) bool {
	p.t.Helper()
	k, same := roomOf(key)
	root, had, e := tree.Delete(p.x, p.root, k)
	_, there := p.has[key]
	if e != api.OK || had != there || !had && root != p.root {
		p.t.Fatalf("Delete(%q) of %d entries: %d, %t, %d", key, len(p.has), root, had, e)
	}
	if !same() {
		p.t.Fatalf("Delete(%q): the key or what is behind it was changed", key)
	}
	spoil(k)
	p.root = root
	delete(p.has, key)
	p.keys = nil
	if (root == 0) != (len(p.has) == 0) {
		p.t.Fatalf("Delete(%q): %d entries are left, the root is %d", key, len(p.has), root)
	}
	p.gets(key)
	return had
}

// gets: Get tells what it should, in new memory each time.
func (p *paper) gets(key string) {
	p.t.Helper()
	want, there := p.has[key]
	for range 2 {
		k, same := roomOf(key)
		v, has, e := tree.Get(p.x, p.root, k)
		if e != api.OK || has != there || string(v) != want || !has && v != nil {
			p.t.Fatalf("Get(%q) of %d entries: %d bytes, %t, %d; not %d bytes, %t", key, len(p.has), len(v), has, e, len(want), there)
		}
		if !same() {
			p.t.Fatalf("Get(%q): the key or what is behind it was changed", key)
		}
		spoil(v)
	}
}

// scanSays: the words of Scan; the keys of what it tells.
func (p *paper) scanSays(from string, n int) []string {
	l := p.sorted()
	for len(l) > 0 && l[len(l)/2] < from {
		l = l[len(l)/2+1:]
	}
	for len(l) > 0 && l[0] < from {
		l = l[1:]
	}
	return l[:max(min(n, len(l)), 0)]
}

// sorted: the keys that there are, in order.
func (p *paper) sorted() []string {
	if p.keys == nil {
		p.keys = slices.Sorted(maps.Keys(p.has))
	}
	return p.keys
}

// set: what a Put is to bring.
func (p *paper) set(key, value string) {
	p.has[key] = value
	p.keys = nil
}

// are: are they the entries of just these keys?
func (p *paper) are(l []tree.Entry, keys []string) bool {
	return slices.EqualFunc(l, keys, func(e tree.Entry, k string) bool {
		return string(e.Key) == k && string(e.Value) == p.has[k]
	})
}

// scans: Scan tells what it should, in new memory each time, of which no two lists share any.
func (p *paper) scans(from string, n int) {
	p.t.Helper()
	want := p.scanSays(from, n)
	for range 2 {
		f, same := roomOf(from)
		l, e := tree.Scan(p.x, p.root, f, n)
		if e != api.OK || !p.are(l, want) {
			p.t.Fatalf("Scan(%q, %d) of %d entries: %d, %d of them; not %d", from, n, len(p.has), e, len(l), len(want))
		}
		if !same() {
			p.t.Fatalf("Scan(%q, %d): from or what is behind it was changed", from, n)
		}
		spoil(f)
		for k := range l {
			spoil(l[k].Key)
			if string(l[k].Value) != p.has[want[k]] {
				p.t.Fatalf("Scan(%q, %d): the key and the value of entry %d share memory", from, n, k)
			}
			spoil(l[k].Value)
			if !p.are(l[k+1:], want[k+1:]) {
				p.t.Fatalf("Scan(%q, %d): entry %d shares memory with those behind it", from, n, k)
			}
		}
	}
}

// pages: as many as there may be, and just they are taken.
func (p *paper) pages() int {
	p.t.Helper()
	n, e := tree.Pages(p.x, p.root)
	if e != api.OK || n > max(2*len(p.has)-1, 0) || n < (len(p.has)+size-1)/size {
		p.t.Fatalf("Pages of %d entries: %d, %d", len(p.has), n, e)
	}
	if taken := p.sectors - area - p.x.Free(); n != taken {
		p.t.Fatalf("Pages: %d, %d sectors are taken", n, taken)
	}
	return n
}

// brief: what can be asked quickly.
func (p *paper) brief() {
	p.t.Helper()
	l, e := tree.Scan(p.x, p.root, nil, len(p.has)+1)
	if e != api.OK || !p.are(l, p.scanSays("", len(p.has))) {
		p.t.Fatalf("Scan of all %d entries: %d, %d", len(p.has), e, len(l))
	}
	p.pages()
}

// look: all that can be asked is as it should be, from each key and beside each (of very many, some).
func (p *paper) look() {
	p.t.Helper()
	p.brief()
	for i, k := range p.sorted() {
		if i%(1+len(p.has)/200) != 0 {
			continue
		}
		for _, near := range around(k) {
			if len(near) >= 1 && len(near) <= longest {
				p.gets(near)
			}
			p.scans(near, 1)
			p.scans(near, 3)
		}
	}
	for _, n := range []int{0, 1, len(p.has) - 1, len(p.has), len(p.has) + 1} {
		p.scans("", n)
	}
	p.scans(strings.Repeat("\xff", longest+1), 2)
}

// around: a text, and those that are just below it and above it.
func around(k string) []string {
	last := len(k) - 1
	l := []string{k, k + "\x00", k[:last], k + "\xff"}
	if b := k[last]; b > 0 {
		l = append(l, k[:last]+string([]byte{b - 1}), k[:last]+string([]byte{b - 1, 0xff}))
	}
	if b := k[last]; b < 255 {
		l = append(l, k[:last]+string([]byte{b + 1}))
	}
	return l
}

// long: a text of n bytes that begins so.
func long(begins string, n int) string {
	return begins + strings.Repeat("x", n-len(begins))
}

// filled: bytes that hang on a mark.
func filled(mark, n int) string {
	b := make([]byte, n)
	for i := range b {
		b[i] = byte(mark*7 + i*3)
	}
	return string(b)
}

// names: n keys in order.
func names(n int) []string {
	l := make([]string, n)
	for i := range l {
		l[i] = fmt.Sprintf("k%05d", i)
	}
	return l
}

// against: the other way round.
func against(l []string) []string {
	l = slices.Clone(l)
	slices.Reverse(l)
	return l
}

// mixed: each once, far from those that were beside it.
func mixed(l []string) []string {
	var out []string
	step := len(l)*5/8 + 1
	for gcd(step, len(l)) != 1 {
		step++
	}
	for i := range l {
		out = append(out, l[i*step%len(l)])
	}
	return out
}

func gcd(a, b int) int {
	for b != 0 {
		a, b = b, a%b
	}
	return a
}

// orders: to put or delete in.
func orders() map[string]func([]string) []string {
	return map[string]func([]string) []string{"in order": slices.Clone[[]string], "against it": against, "mixed": mixed}
}

// wreck: the disk goes down.
func (p *paper) wreck() {
	p.d.Arm(0)
	p.d.Write(chart, make([]byte, size))
}

// full: just these sectors are free, of those that are given out; the transaction is a new one.
func (p *paper) full(free ...int) {
	p.t.Helper()
	b := bytes.Repeat([]byte{0xff}, size)
	for _, i := range free {
		b[i/8] &^= 1 << (i % 8)
	}
	x := p.j.Begin()
	x.Write(chart, b)
	if e := x.Commit(); e != api.OK {
		p.t.Fatalf("Commit: %d", e)
	}
	p.open()
}
