package journal_test

import (
	"bytes"
	"crypto/sha256"
	"encoding/binary"
	"maps"
	"slices"
	"testing"

	"stele/api"
	"stele/disk"
	"stele/journal"
)

// What the document's words say, on paper, by Go's own digest and bytes.

const (
	size  = 512 // bytes of a sector
	most  = 48  // sectors of a transaction
	first = 49  // sector of the area
	small = 64  // sectors of the smallest disk
	roomy = 120 // sectors of one whose area takes more than the greatest transaction
)

// noughts: a sector of them.
func noughts() string { return string(make([]byte, size)) }

// fill: a sector's bytes that differ from place to place, and from those of another mark in each place.
func fill(mark byte) []byte {
	b := make([]byte, size)
	for i := range b {
		b[i] = mark + byte(i/256)*7 + byte(i)
	}
	return b
}

// filled: likewise, as a text.
func filled(mark byte) string { return string(fill(mark)) }

// filledEach: n sectors' bytes, each of another mark, from that one on.
func filledEach(mark byte, n int) []string {
	var l []string
	for k := range n {
		l = append(l, filled(mark+byte(k)))
	}
	return l
}

func numberPart(n uint64) string { return string(binary.BigEndian.AppendUint64([]byte{'u'}, n)) }
func listPart(n int) string      { return string(binary.BigEndian.AppendUint32([]byte{'l'}, uint32(n))) }

// longPart: a text's or a list's of bytes, by its mark.
func longPart(mark byte, s string) string {
	return string(binary.BigEndian.AppendUint32([]byte{mark}, uint32(len(s)))) + s
}

// sealHead: a seal's parts ahead of the digest.
func sealHead(number uint64, places []uint64) string {
	s := longPart('s', "stele") + numberPart(number) + listPart(len(places))
	for _, p := range places {
		s += numberPart(p)
	}
	return s
}

func sum(s string) string {
	h := sha256.Sum256([]byte(s))
	return string(h[:])
}

// padded: 0 behind it, till it is a sector.
func padded(s string) string { return s + noughts()[len(s):] }

// sealText: the seal's bytes.
func sealText(number uint64, places []uint64, data []string) string {
	head := sealHead(number, places)
	all := head
	for _, s := range data {
		all += s
	}
	return padded(head + longPart('b', sum(all)))
}

// entry: a write to a sector.
type entry struct {
	at   int
	text string
}

// drive: a disk, as the words of its chapter say.
type drive struct {
	sectors        int
	stable         map[int]string // none: all 0
	cached         []entry
	armed          int // below 0: any
	down           bool
	writes, flushs uint64
}

func (v *drive) has(i int) bool { return 0 <= i && i < v.sectors }

func (v *drive) kept(i int) string {
	if s, ok := v.stable[i]; ok {
		return s
	}
	return noughts()
}

func (v *drive) seen(i int) string {
	s := v.kept(i)
	for _, w := range v.cached {
		if w.at == i {
			s = w.text
		}
	}
	return s
}

// write: false, if the disk is down, or goes down.
func (v *drive) write(i int, s string) bool {
	if v.down || v.armed == 0 {
		v.down = true
		return false
	}
	v.armed = max(v.armed-1, -1)
	v.cached = append(v.cached, entry{i, s})
	v.writes++
	return true
}

func (v *drive) flush() bool {
	if v.down {
		return false
	}
	for _, w := range v.cached {
		v.stable[w.at] = w.text
	}
	v.cached = nil
	v.flushs++
	return true
}

func (v *drive) crash(keep []bool) {
	for k, w := range v.cached {
		if k < len(keep) && keep[k] {
			v.stable[w.at] = w.text
		}
	}
	v.cached, v.armed, v.down = nil, -1, false
}

// sealTold: what a seal that holds says; its parts are read off by their places.
func (v *drive) sealTold() (number uint64, places []int, data []string, holds bool) {
	s := v.seen(0)
	if s[:10] != "s\x00\x00\x00\x05stele" || s[10] != 'u' || s[19] != 'l' {
		return 0, nil, nil, false
	}
	number = binary.BigEndian.Uint64([]byte(s[11:19]))
	n := binary.BigEndian.Uint32([]byte(s[20:24]))
	if n > most {
		return 0, nil, nil, false
	}
	at, all := 24, ""
	for k := range int(n) {
		p := binary.BigEndian.Uint64([]byte(s[at+1 : at+9]))
		if s[at] != 'u' || p < first || p >= uint64(v.sectors) {
			return 0, nil, nil, false
		}
		places, data = append(places, int(p)), append(data, v.seen(1+k))
		all += v.seen(1 + k)
		at += 9
	}
	holds = s[at:] == padded(longPart('b', sum(s[:at]+all)))[:size-at]
	return number, places, data, holds
}

// paper: a disk and a journal beside what the words say of them. Each call is done to both and held against each other.
type paper struct {
	t    *testing.T
	d    *disk.Disk
	v    *drive
	j    *journal.Journal // nil: none was mounted
	seq  uint64
	dead bool // an error came to it
}

// page: a transaction beside what the words say of it.
type page struct {
	*paper
	x     *journal.Tx
	has   map[int]string
	tried bool
}

// blank: a new disk, no journal of it yet.
func blank(t *testing.T, sectors int) *paper {
	t.Helper()
	d, e := disk.New(sectors)
	if e != api.OK {
		t.Fatalf("disk of %d: %d", sectors, e)
	}
	return &paper{t: t, d: d, v: &drive{sectors: sectors, stable: map[int]string{}, armed: -1}}
}

// mounted: a new disk and a journal of it.
func mounted(t *testing.T, sectors int) *paper {
	t.Helper()
	p := blank(t, sectors)
	p.mount()
	return p
}

// twin: a disk with the same stable sectors, no journal of it yet.
func (p *paper) twin() *paper {
	p.t.Helper()
	q := blank(p.t, p.v.sectors)
	for i, s := range p.v.stable {
		q.set(i, s)
	}
	q.flush()
	return q
}

// set: a sector of the disk, past the journal.
func (p *paper) set(i int, s string) {
	p.t.Helper()
	if e := p.d.Write(i, []byte(s)); (e == api.OK) != p.v.write(i, s) {
		p.t.Fatalf("disk's Write(%d): %d", i, e)
	}
}

// setSeal: a seal and slots, past the journal.
func (p *paper) setSeal(seal string, data []string) {
	p.t.Helper()
	p.set(0, seal)
	for k, s := range data {
		p.set(1+k, s)
	}
	p.flush()
}

func (p *paper) flush() {
	p.t.Helper()
	if e := p.d.Flush(); (e == api.OK) != p.v.flush() {
		p.t.Fatalf("disk's Flush: %d", e)
	}
}

func (p *paper) arm(n int) {
	p.d.Arm(n)
	p.v.armed = n
}

// crash: and the disk is as it should be.
func (p *paper) crash(keep []bool) {
	p.t.Helper()
	p.d.Crash(keep)
	p.v.crash(keep)
	p.look()
}

// wreck: the disk goes down past the journal.
func (p *paper) wreck() {
	p.arm(0)
	p.set(first, noughts())
}

// look: at what the disk and the journal tell of themselves, and at every sector.
func (p *paper) look() {
	p.t.Helper()
	p.glance()
	for i := range p.v.sectors {
		if b, e := p.d.Stable(i); e != api.OK || string(b) != p.v.kept(i) {
			p.t.Fatalf("disk's Stable(%d): %d, %.12x.., not %.12x..", i, e, b, p.v.kept(i))
		}
	}
}

// glance: likewise, but not at the sectors.
func (p *paper) glance() {
	p.t.Helper()
	type face struct {
		seq             uint64
		size            int
		down            bool
		cached          int
		writes, flushes uint64
	}
	w, f := p.d.Count()
	got := face{p.j.Seq(), p.j.Size(), p.d.Down(), p.d.Cached(), w, f}
	want := face{p.seq, 0, p.v.down, len(p.v.cached), p.v.writes, p.v.flushs}
	if p.j != nil {
		want.size = p.v.sectors
	}
	if got != want {
		p.t.Fatalf("Seq, Size, Down, Cached, writes, flushes: %v, not %v", got, want)
	}
}

// areaOf: all that is read of the area.
func (p *paper) areaOf() string {
	return withSectors(p, nil)
}

// mountSays: the disk's part of Mount, on paper.
func (p *paper) mountSays() (seq uint64, ok bool) {
	if p.v.down {
		return 0, false
	}
	number, places, data, holds := p.v.sealTold()
	if !holds {
		return 0, true
	}
	for k, at := range places {
		if !p.v.write(at, data[k]) {
			return 0, false
		}
	}
	return number, p.v.flush()
}

// mount: a journal anew, or none if there is an error; ok tells.
func (p *paper) mount() (ok bool) {
	p.t.Helper()
	j, e := journal.Mount(p.d)
	seq, ok := p.mountSays()
	if ok && (e != api.OK || j == nil) || !ok && (e != api.ErrDown || j != nil) {
		p.t.Fatalf("Mount: %v, %d; does it go: %v", j, e, ok)
	}
	p.j, p.seq, p.dead = j, seq, false
	p.look()
	return ok
}

// spoil: what was handed out, spare room too, so that one who kept it is found out later.
func spoil(b []byte) {
	b = b[:cap(b)]
	for i := range b {
		b[i] ^= 0xa5
	}
}

// told: bytes and an error, as they should be.
func (p *paper) told(what string, i int, b []byte, e api.Errno, text string, want api.Errno) {
	p.t.Helper()
	if e != want || string(b) != text {
		p.t.Fatalf("%s(%d): %d, %.20x.. of %d bytes; not %d, %.20x..", what, i, e, b, len(b), want, text)
	}
	spoil(b)
	p.glance()
}

func (p *paper) inArea(i int) bool { return first <= i && i < p.v.sectors }

// readSays: what a read of the area tells; an error of the disk is the journal's last.
func (p *paper) readSays(i int) (string, api.Errno) {
	if !p.inArea(i) {
		return "", api.ErrSector
	}
	if p.v.down {
		p.dead = true
		return "", api.ErrDown
	}
	return p.v.seen(i), api.OK
}

func (p *paper) read(i int) {
	p.t.Helper()
	b, e := p.j.Read(i)
	text, want := p.readSays(i)
	p.told("Read", i, b, e, text, want)
}

// readAll: the area, and what is beside it.
func (p *paper) readAll() {
	p.t.Helper()
	for i := first - 2; i < p.v.sectors+2; i++ {
		p.read(i)
	}
}

func (p *paper) begin() *page {
	p.t.Helper()
	x := &page{paper: p, x: p.j.Begin(), has: map[int]string{}}
	if x.x == nil {
		p.t.Fatal("Begin: nil")
	}
	x.length()
	return x
}

func (x *page) length() {
	x.t.Helper()
	if n := x.x.Len(); n != len(x.has) {
		x.t.Fatalf("Len: %d, not %d", n, len(x.has))
	}
	x.glance()
}

func (x *page) writeSays(i, length int) api.Errno {
	_, twice := x.has[i]
	switch {
	case x.tried || x.dead:
		return api.ErrDown
	case !x.inArea(i):
		return api.ErrSector
	case length != size:
		return api.ErrArg
	case !twice && len(x.has) == most:
		return api.ErrFull
	}
	return api.OK
}

// write: the bytes stay as they were, and may be changed behind the call.
func (x *page) write(i int, b []byte) api.Errno {
	x.t.Helper()
	room := append(bytes.Clone(b), "spare room"...)
	in := room[:len(b)]
	e, want := x.x.Write(i, in), x.writeSays(i, len(b))
	if e != want {
		x.t.Fatalf("Write(%d) of %d bytes: %d, not %d", i, len(b), e, want)
	}
	if string(room) != string(b)+"spare room" {
		x.t.Fatalf("Write(%d): its bytes, or what is behind them, were changed", i)
	}
	spoil(room)
	if e == api.OK {
		x.has[i] = string(b)
	}
	x.length()
	return e
}

func (x *page) read(i int) {
	x.t.Helper()
	b, e := x.x.Read(i)
	text, own := x.has[i]
	want := api.OK
	if !own {
		text, want = x.readSays(i)
	}
	x.told("the transaction's Read", i, b, e, text, want)
}

func (x *page) readAll() {
	x.t.Helper()
	for i := first - 2; i < x.v.sectors+2; i++ {
		x.read(i)
	}
}

// places: in order.
func (x *page) places() []int { return slices.Sorted(maps.Keys(x.has)) }

// put: writes one behind the other, then a flush.
func (v *drive) put(l ...entry) bool {
	for _, w := range l {
		if !v.write(w.at, w.text) {
			return false
		}
	}
	return v.flush()
}

func (x *page) commitSays() api.Errno {
	if x.tried || x.dead {
		return api.ErrDown
	}
	if len(x.has) == 0 {
		return api.OK
	}
	var slots, there []entry
	var numbers []uint64
	var data []string
	for k, at := range x.places() {
		slots, there = append(slots, entry{1 + k, x.has[at]}), append(there, entry{at, x.has[at]})
		numbers, data = append(numbers, uint64(at)), append(data, x.has[at])
	}
	if x.v.put(slots...) && x.v.put(entry{0, sealText(x.seq+1, numbers, data)}) && x.v.put(there...) {
		x.seq++
		return api.OK
	}
	x.dead = true
	return api.ErrDown
}

func (x *page) commit() api.Errno {
	x.t.Helper()
	e, want := x.x.Commit(), x.commitSays()
	x.tried = true
	if e != want {
		x.t.Fatalf("Commit of %d sectors: %d, not %d", len(x.has), e, want)
	}
	x.length()
	x.look()
	return e
}

// writes: each sector with the bytes of its mark.
func (x *page) writes(sectors map[int]byte) *page {
	x.t.Helper()
	for _, i := range slices.Sorted(maps.Keys(sectors)) {
		if x.write(i, fill(sectors[i])) != api.OK {
			x.t.Fatalf("sector %d is not taken", i)
		}
	}
	return x
}

// run: n sectors from at on, each of another mark, from that one on.
func run(at, n int, mark byte) map[int]byte {
	m := map[int]byte{}
	for k := range n {
		m[at+k] = mark + byte(k)
	}
	return m
}

// does: a transaction that is committed.
func (p *paper) does(sectors map[int]byte) *page {
	p.t.Helper()
	x := p.begin().writes(sectors)
	if e := x.commit(); e != api.OK {
		p.t.Fatalf("Commit: %d", e)
	}
	return x
}

// ways: each list of n truths.
func ways(n int) [][]bool {
	var l [][]bool
	for bits := range 1 << n {
		var keep []bool
		for k := range n {
			keep = append(keep, bits>>k&1 == 1)
		}
		l = append(l, keep)
	}
	return l
}
