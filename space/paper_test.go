package space_test

import (
	"bytes"
	"maps"
	"math"
	"math/big"
	"slices"
	"testing"

	"stele/api"
	"stele/disk"
	"stele/journal"
	"stele/space"
)

// What the document's words say, on paper: a map is one great number, whose bits are the sectors.

const (
	size  = 512 // bytes of a sector
	most  = 48  // sectors of a transaction
	chart = 49  // the map's sector
	root  = 50  // of whoever stands above
	area  = 51  // the first one that is given out
	small = 64  // sectors of the smallest disk
	roomy = 120 // sectors of one that has more to give than a transaction takes
)

// noughts: a sector of them.
func noughts() string { return string(make([]byte, size)) }

// fill: a sector's bytes that differ from place to place, and from those of another mark in each place.
func fill(mark byte) []byte {
	b := make([]byte, size)
	for i := range b {
		b[i] = mark + byte(i/256)*7 + byte(i)
	}
	return b
}

// filled: likewise, as a text.
func filled(mark byte) string { return string(fill(mark)) }

// number: the bytes as a number, the first one its lowest.
func number(b []byte) *big.Int {
	turned := bytes.Clone(b)
	slices.Reverse(turned)
	return new(big.Int).SetBytes(turned)
}

// mapText: a map's bytes, of such a number.
func mapText(n *big.Int) string {
	b := n.FillBytes(make([]byte, size))
	slices.Reverse(b)
	return string(b)
}

// mapOf: a map in which just these are taken.
func mapOf(sectors ...int) string {
	n := new(big.Int)
	for _, i := range sectors {
		n.SetBit(n, i, 1)
	}
	return mapText(n)
}

// from: the numbers from a to below b.
func from(a, b int) []int {
	var l []int
	for i := a; i < b; i++ {
		l = append(l, i)
	}
	return l
}

// beside: sectors that no disk has, or that are the journal's.
func beside(sectors int) []int {
	return []int{math.MinInt, math.MinInt + 1, math.MinInt32, -8 * size, -area, -chart, -8, -1, 0, 1, 2, 7, 8, most - 1, most, sectors, sectors + 1, sectors + 8, sectors + area, api.MaxDisk, api.MaxDisk + 1, api.MaxDisk + area, 1 << 20, math.MaxInt32, math.MaxInt32 + 1 + area, math.MaxInt - 1, math.MaxInt}
}

// paper: a disk and a journal beside what the words say of them. Each call is done to both and held against each other.
type paper struct {
	t       *testing.T
	d       *disk.Disk
	j       *journal.Journal
	sectors int
	has     map[int]string // committed; none: all 0
	down    bool
	dead    bool // an error of the disk came to the journal
}

// page: a transaction beside what the words say of it.
type page struct {
	*paper
	x     *space.Tx
	own   map[int]string
	taken *big.Int
	tried bool
}

// mounted: a new disk and a journal of it.
func mounted(t *testing.T, sectors int) *paper {
	t.Helper()
	d, e := disk.New(sectors)
	if e != api.OK {
		t.Fatalf("disk of %d: %d", sectors, e)
	}
	p := &paper{t: t, d: d, sectors: sectors, has: map[int]string{}}
	p.mount()
	return p
}

func (p *paper) mount() {
	p.t.Helper()
	j, e := journal.Mount(p.d)
	if e != api.OK {
		p.t.Fatalf("Mount: %d", e)
	}
	p.j, p.dead = j, false
}

func (p *paper) kept(i int) string {
	if s, ok := p.has[i]; ok {
		return s
	}
	return noughts()
}

// readSays: what the journal tells of a sector; an error of the disk is its last.
func (p *paper) readSays(i int) (string, api.Errno) {
	if i < chart || i >= p.sectors {
		return "", api.ErrSector
	}
	if p.down {
		p.dead = true
		return "", api.ErrDown
	}
	return p.kept(i), api.OK
}

// look: each sector that the journal has, if the disk is up.
func (p *paper) look() {
	p.t.Helper()
	if p.d.Down() != p.down {
		p.t.Fatalf("is the disk down: %v", p.d.Down())
	}
	for i := chart; i < p.sectors && !p.down; i++ {
		if b, e := p.j.Read(i); e != api.OK || string(b) != p.kept(i) {
			p.t.Fatalf("sector %d: %d, %.20x.., not %.20x..", i, e, b, p.kept(i))
		}
	}
}

// wreck: the disk goes down past the journal.
func (p *paper) wreck() {
	p.d.Arm(0)
	if e := p.d.Write(root, make([]byte, size)); e != api.ErrDown {
		p.t.Fatalf("the disk does not go down: %d", e)
	}
	p.down = true
}

// crash: what was not flushed is lost.
func (p *paper) crash() {
	p.d.Crash(nil)
	p.down = false
}

// again: a crash, and the disk mounted anew.
func (p *paper) again() {
	p.t.Helper()
	p.crash()
	p.mount()
	p.look()
}

// hand: sectors written past package space.
func (p *paper) hand(sectors map[int]string) {
	p.t.Helper()
	x := p.j.Begin()
	for i, s := range sectors {
		if e := x.Write(i, []byte(s)); e != api.OK {
			p.t.Fatalf("sector %d by hand: %d", i, e)
		}
		p.has[i] = s
	}
	if e := x.Commit(); e != api.OK {
		p.t.Fatalf("by hand: %d", e)
	}
}

// open: a transaction, or nil if the disk is down.
func (p *paper) open() *page {
	p.t.Helper()
	w, f := p.d.Count()
	x, e := space.Open(p.j)
	text, want := p.readSays(chart)
	if e != want || (x != nil) != (e == api.OK) {
		p.t.Fatalf("Open: %v, %d, not %d", x, e, want)
	}
	if w2, f2 := p.d.Count(); w2 != w || f2 != f {
		p.t.Fatalf("Open: %d writes, %d flushes", w2-w, f2-f)
	}
	if x == nil {
		return nil
	}
	g := &page{paper: p, x: x, own: map[int]string{}, taken: number([]byte(text))}
	g.glance()
	return g
}

// spoil: what was handed out, spare room too, so that one who kept it is found out later.
func spoil(b []byte) {
	b = b[:cap(b)]
	for i := range b {
		b[i] ^= 0xa5
	}
}

// freeSays: the sectors that can be taken, in order.
func (x *page) freeSays() []int {
	var l []int
	for i := area; i < x.sectors; i++ {
		if x.taken.Bit(i) == 0 {
			l = append(l, i)
		}
	}
	return l
}

// glance: what the transaction tells of itself.
func (x *page) glance() {
	x.t.Helper()
	if n := len(x.freeSays()); x.x.Free() != n {
		x.t.Fatalf("Free: %d, not %d", x.x.Free(), n)
	}
	if n := most - len(x.own); x.x.Left() != n {
		x.t.Fatalf("Left: %d, not %d", x.x.Left(), n)
	}
}

// writeSays: what the journal's Write of a sector tells; on paper it is written.
func (x *page) writeSays(i int, s string) api.Errno {
	_, twice := x.own[i]
	switch {
	case x.tried || x.dead:
		return api.ErrDown
	case i < chart || i >= x.sectors:
		return api.ErrSector
	case len(s) != size:
		return api.ErrArg
	case !twice && len(x.own) == most:
		return api.ErrFull
	}
	x.own[i] = s
	return api.OK
}

// turnSays: the map with the bit of i turned, if the journal takes it.
func (x *page) turnSays(i int) api.Errno {
	n := new(big.Int).SetBit(x.taken, i, 1-x.taken.Bit(i))
	e := x.writeSays(chart, mapText(n))
	if e == api.OK {
		x.taken = n
	}
	return e
}

func (x *page) takeSays() (int, api.Errno) {
	l := x.freeSays()
	if len(l) == 0 {
		return 0, api.ErrFull
	}
	if e := x.writeSays(l[0], noughts()); e != api.OK {
		return 0, e
	}
	if e := x.turnSays(l[0]); e != api.OK {
		return 0, e
	}
	return l[0], api.OK
}

func (x *page) take() (int, api.Errno) {
	x.t.Helper()
	i, e := x.x.Take()
	at, want := x.takeSays()
	if i != at || e != want {
		x.t.Fatalf("Take: %d, %d; not %d, %d", i, e, at, want)
	}
	x.glance()
	if e == api.OK {
		x.read(i)
	}
	return i, e
}

func (x *page) giveSays(i int) api.Errno {
	if i < area || i >= x.sectors || x.taken.Bit(i) == 0 {
		return api.ErrSector
	}
	return x.turnSays(i)
}

func (x *page) give(i int) api.Errno {
	x.t.Helper()
	e, want := x.x.Give(i), x.giveSays(i)
	if e != want {
		x.t.Fatalf("Give(%d): %d, not %d", i, e, want)
	}
	x.glance()
	return e
}

// write: the bytes stay as they were, and may be changed behind the call.
func (x *page) write(i int, b []byte) api.Errno {
	x.t.Helper()
	room := append(bytes.Clone(b), "spare room"...)
	e := x.x.Write(i, room[:len(b)])
	want := api.ErrSector
	if i >= root {
		want = x.writeSays(i, string(b))
	}
	if e != want {
		x.t.Fatalf("Write(%d) of %d bytes: %d, not %d", i, len(b), e, want)
	}
	if string(room) != string(b)+"spare room" {
		x.t.Fatalf("Write(%d): its bytes, or what is behind them, were changed", i)
	}
	spoil(room)
	x.glance()
	return e
}

func (x *page) read(i int) (string, api.Errno) {
	x.t.Helper()
	b, e := x.x.Read(i)
	text, want := x.own[i], api.OK
	if i < root {
		text, want = "", api.ErrSector
	} else if _, own := x.own[i]; !own {
		text, want = x.readSays(i)
	}
	if e != want || string(b) != text {
		x.t.Fatalf("Read(%d): %d, %.20x.. of %d bytes; not %d, %.20x..", i, e, b, len(b), want, text)
	}
	spoil(b)
	x.glance()
	return text, e
}

// readAll: the sectors, and what is beside them.
func (x *page) readAll() {
	x.t.Helper()
	for i := chart - 2; i < x.sectors+2; i++ {
		x.read(i)
	}
}

// ends: what an end of the transaction leaves, if it is done; e is what it says.
func (x *page) ends() (e api.Errno) {
	if x.tried || x.dead {
		return api.ErrDown
	}
	if x.down && len(x.own) > 0 {
		x.dead = true
		return api.ErrDown
	}
	maps.Copy(x.has, x.own)
	return api.OK
}

func (x *page) commit() api.Errno {
	x.t.Helper()
	w, _ := x.d.Count()
	writes := uint64(0)
	e, want := x.x.Commit(), x.ends()
	if want == api.OK && len(x.own) > 0 {
		writes = uint64(2*len(x.own) + 1)
	}
	x.tried = true
	if w2, _ := x.d.Count(); e != want || w2-w != writes {
		x.t.Fatalf("Commit: %d, not %d; %d writes, not %d", e, want, w2-w, writes)
	}
	x.glance()
	x.look()
	return e
}

// takes: n sectors, all of them there.
func (x *page) takes(n int) []int {
	x.t.Helper()
	var l []int
	for range n {
		i, e := x.take()
		if e != api.OK {
			x.t.Fatalf("Take: %d", e)
		}
		l = append(l, i)
	}
	return l
}

// gives: each of them.
func (x *page) gives(l ...int) {
	x.t.Helper()
	for _, i := range l {
		if e := x.give(i); e != api.OK {
			x.t.Fatalf("Give(%d): %d", i, e)
		}
	}
}

// writes: n sectors from at on, with bytes of their own marks, from that one on.
func (x *page) writes(at, n int, mark byte) *page {
	x.t.Helper()
	for k := range n {
		if e := x.write(at+k, fill(mark+byte(k))); e != api.OK {
			x.t.Fatalf("Write(%d): %d", at+k, e)
		}
	}
	return x
}

// done: committed, without an error.
func (x *page) done() {
	x.t.Helper()
	if e := x.commit(); e != api.OK {
		x.t.Fatalf("Commit: %d", e)
	}
}

// fillUp: all but that many are taken, in as many transactions as it asks for.
func (p *paper) fillUp(spare int) {
	p.t.Helper()
	for x := p.open(); len(x.freeSays()) > spare; x = p.open() {
		x.takes(min(most-1, len(x.freeSays())-spare))
		x.done()
	}
}
