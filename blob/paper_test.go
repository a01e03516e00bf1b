package blob_test

import (
	"bytes"
	"crypto/sha256"
	"encoding/binary"
	"fmt"
	"math"
	"slices"
	"testing"

	"stele/api"
	"stele/blob"
	"stele/disk"
	"stele/journal"
	"stele/space"
)

// What the document's words say, on paper: a second disk beside the first, to which the words are done by hand.

const (
	size     = 512  // bytes of a sector
	most     = 48   // sectors of a transaction
	chart    = 49   // the map's sector
	root     = 50   // of whoever stands above
	area     = 51   // the first one that is given out
	small    = 64   // sectors of the smallest disk
	roomy    = 120  // sectors of one that has more to give than a transaction takes
	great    = 4096 // sectors of the greatest
	greatest = 6144 // bytes of a blob
	many     = 12   // its sectors
)

// data: bytes that differ from place to place, from sector to sector, and from those of another mark.
func data(n int, mark byte) []byte {
	b := make([]byte, n)
	for i := range b {
		b[i] = mark + byte(i)*3 + byte(i/size)*29 + 1
	}
	return b
}

// sumOf: SHA-256, by the library.
func sumOf(b []byte) []byte {
	s := sha256.Sum256(b)
	return s[:]
}

// needSays: sectors counted one by one.
func needSays(n int) int {
	count := 0
	for ; n > 0; n -= size {
		count++
	}
	return count
}

// from: n numbers from at on.
func from(at, n int) []int {
	l := make([]int, n)
	for k := range l {
		l[k] = at + k
	}
	return l
}

// ref: of bytes in these sectors.
func ref(b []byte, sectors ...int) blob.Ref {
	return blob.Ref{Len: len(b), Sum: sumOf(b), Sectors: sectors}
}

// copied: nobody else's memory.
func copied(r blob.Ref) blob.Ref {
	return blob.Ref{Len: r.Len, Sum: bytes.Clone(r.Sum), Sectors: slices.Clone(r.Sectors)}
}

func sameRef(a, b blob.Ref) bool {
	return a.Len == b.Len && bytes.Equal(a.Sum, b.Sum) && slices.Equal(a.Sectors, b.Sectors)
}

// none: the zero one?
func none(r blob.Ref) bool { return r.Len == 0 && r.Sum == nil && r.Sectors == nil }

// rightSays: the words of a ref that is right.
func rightSays(r blob.Ref) bool {
	if r.Len < 0 || r.Len > greatest || len(r.Sum) != 32 || len(r.Sectors) != needSays(r.Len) {
		return false
	}
	l := slices.Sorted(slices.Values(r.Sectors))
	once := len(slices.Compact(slices.Clone(l))) == len(l)
	return once && (len(l) == 0 || l[0] >= area && l[len(l)-1] < great)
}

// showSays: the bytes of a ref, by the library's means.
func showSays(r blob.Ref) []byte {
	number := func(b []byte, n int) []byte {
		if n < 0 {
			n = 0
		}
		return binary.BigEndian.AppendUint64(append(b, 'u'), uint64(n))
	}
	b := number(nil, r.Len)
	b = binary.BigEndian.AppendUint32(append(b, 'b'), uint32(len(r.Sum)))
	b = append(b, r.Sum...)
	b = binary.BigEndian.AppendUint32(append(b, 'l'), uint32(len(r.Sectors)))
	for _, i := range r.Sectors {
		b = number(b, i)
	}
	return b
}

// spoil: what was handed in or out, spare room too, so that one who kept it is found out later.
func spoil(b []byte) {
	b = b[:cap(b)]
	for i := range b {
		b[i] ^= 0xa5
	}
}

// spoilRef: likewise.
func spoilRef(r blob.Ref) {
	spoil(r.Sum)
	l := r.Sectors[:cap(r.Sectors)]
	for i := range l {
		l[i] = -7
	}
}

// wrongRefs: those that are not right, each of them by one thing, made of one that is.
func wrongRefs() map[string]blob.Ref {
	l := map[string]blob.Ref{}
	for _, n := range []int{0, 1, size, 2*size + 1, greatest} {
		r := ref(data(n, 1), from(area+2, needSays(n))...)
		add := func(name string, change func(r *blob.Ref)) {
			c := copied(r)
			change(&c)
			l[fmt.Sprint(name, ", of ", n)] = c
		}
		for _, m := range []int{math.MinInt, math.MinInt32, -greatest, -size, -2, -1, greatest + 1, greatest + size, math.MaxInt32, math.MaxInt32 + 1, 1<<32 + n, math.MaxInt} {
			add(fmt.Sprint("length ", m), func(r *blob.Ref) { r.Len = m })
		}
		// Lengths that fill other sectors than there are.
		for _, m := range []int{0, 1, size, size + 1, 2 * size, 3*size + 1, greatest - size, greatest} {
			if needSays(m) != needSays(n) {
				add(fmt.Sprint("length ", m), func(r *blob.Ref) { r.Len = m })
			}
		}
		for _, m := range []int{1, 16, 20, 31, 33, 64} {
			add(fmt.Sprint("sum of ", m), func(r *blob.Ref) { r.Sum = append(r.Sum, r.Sum...)[:m] })
		}
		add("sum empty", func(r *blob.Ref) { r.Sum = []byte{} })
		add("sum nil", func(r *blob.Ref) { r.Sum = nil })
		add("a sector more", func(r *blob.Ref) { r.Sectors = append(r.Sectors, 70) })
		add("many more", func(r *blob.Ref) { r.Sectors = append(r.Sectors, from(1000, 100)...) })
		for k := range r.Sectors {
			add(fmt.Sprint("less the ", k), func(r *blob.Ref) { r.Sectors = slices.Delete(r.Sectors, k, k+1) })
			for _, i := range []int{math.MinInt, -great, -area, -1, 0, 1, most, chart, root, great, great + 1, great + area, 1<<16 + area, math.MaxInt32, 1<<32 + area, math.MaxInt} {
				add(fmt.Sprint("sector ", k, " is ", i), func(r *blob.Ref) { r.Sectors[k] = i })
			}
			for j := range k {
				add(fmt.Sprint("sector ", k, " is as ", j), func(r *blob.Ref) { r.Sectors[k] = r.Sectors[j] })
			}
		}
		if n > 0 {
			add("no sectors", func(r *blob.Ref) { r.Sectors = nil })
		}
	}
	l["nothing"] = blob.Ref{}
	l["all wrong"] = blob.Ref{Len: -1, Sum: []byte{1}, Sectors: []int{-1, -1}}
	return l
}

// side: a disk, a journal and a transaction of it.
type side struct {
	d *disk.Disk
	j *journal.Journal
	x *space.Tx
}

// paper: the side whose transaction package blob is given, and the one that the words are done to by hand.
type paper struct {
	t         *testing.T
	its, mine side
	sectors   int
}

// opened: two new disks, with a transaction each.
func opened(t *testing.T, sectors int) *paper {
	t.Helper()
	p := &paper{t: t, sectors: sectors}
	p.both(func(s *side) {
		d, e := disk.New(sectors)
		if e != api.OK {
			t.Fatalf("disk of %d: %d", sectors, e)
		}
		s.d = d
	})
	p.mount()
	return p
}

// both: the same to each side.
func (p *paper) both(do func(s *side)) *paper {
	do(&p.its)
	do(&p.mine)
	return p
}

// bothOK: likewise, without an error.
func (p *paper) bothOK(do func(s *side) api.Errno) *paper {
	p.t.Helper()
	return p.both(func(s *side) {
		p.t.Helper()
		if e := do(s); e != api.OK {
			p.t.Fatalf("by hand: %d", e)
		}
	})
}

func (p *paper) mount() *paper {
	p.t.Helper()
	return p.bothOK(func(s *side) (e api.Errno) {
		s.j, e = journal.Mount(s.d)
		return e
	}).open()
}

func (p *paper) open() *paper {
	p.t.Helper()
	return p.bothOK(func(s *side) (e api.Errno) {
		s.x, e = space.Open(s.j)
		return e
	})
}

func (p *paper) commit() *paper {
	p.t.Helper()
	return p.bothOK(func(s *side) api.Errno { return s.x.Commit() })
}

// again: committed, and the disk mounted anew behind a crash.
func (p *paper) again() *paper {
	p.t.Helper()
	return p.commit().both(func(s *side) { s.d.Crash(nil) }).mount()
}

// wreck: the disk goes down, and the journal sees it.
func (p *paper) wreck() *paper {
	return p.both(func(s *side) {
		s.d.Arm(0)
		s.d.Write(root, make([]byte, size))
		s.j.Read(root)
	})
}

// hand: sectors from at on written by hand in the transaction.
func (p *paper) hand(at, n int) *paper {
	p.t.Helper()
	return p.bothOK(func(s *side) api.Errno {
		for k := range n {
			if e := s.x.Write(at+k, data(size, byte(at+k))); e != api.OK {
				return e
			}
		}
		return api.OK
	})
}

func (p *paper) takes(n int) *paper {
	p.t.Helper()
	return p.bothOK(func(s *side) api.Errno {
		for range n {
			if _, e := s.x.Take(); e != api.OK {
				return e
			}
		}
		return api.OK
	})
}

func (p *paper) gives(sectors ...int) *paper {
	p.t.Helper()
	return p.bothOK(func(s *side) api.Errno {
		for _, i := range sectors {
			if e := s.x.Give(i); e != api.OK {
				return e
			}
		}
		return api.OK
	})
}

// chart: just these sectors are free, of those that are given out; the transaction is a new one.
func (p *paper) chart(free ...int) *paper {
	p.t.Helper()
	b := bytes.Repeat([]byte{0xff}, size)
	for _, i := range free {
		b[i/8] &^= 1 << (i % 8)
	}
	return p.bothOK(func(s *side) api.Errno {
		x := s.j.Begin()
		x.Write(chart, b)
		return x.Commit()
	}).open()
}

// look: both sides are as one another, in all that can be asked of them.
func (p *paper) look() {
	p.t.Helper()
	a, b := p.its, p.mine
	if a.x.Free() != b.x.Free() || a.x.Left() != b.x.Left() {
		p.t.Fatalf("Free %d, Left %d; not %d, %d", a.x.Free(), a.x.Left(), b.x.Free(), b.x.Left())
	}
	w, f := a.d.Count()
	w2, f2 := b.d.Count()
	if w != w2 || f != f2 || a.d.Down() != b.d.Down() {
		p.t.Fatalf("%d writes and %d flushes, not %d and %d", w, f, w2, f2)
	}
	for i := range p.sectors {
		read := []func(int) ([]byte, api.Errno){a.x.Read, b.x.Read, a.d.Stable, b.d.Stable}
		if i == chart { // the map as the transaction has it
			read[0], read[1] = a.x.Tx.Read, b.x.Tx.Read
		}
		for k := 0; k < len(read); k += 2 {
			c, e := read[k](i)
			d, e2 := read[k+1](i)
			if e != e2 || !bytes.Equal(c, d) {
				p.t.Fatalf("sector %d: %d, %.20x..; not %d, %.20x..", i, e, c, e2, d)
			}
		}
	}
}

// putSays: the words of Put, done to the other side.
func (p *paper) putSays(b []byte) (blob.Ref, api.Errno) {
	x, need := p.mine.x, needSays(len(b))
	if len(b) > greatest {
		return blob.Ref{}, api.ErrBig
	}
	if x.Free() < need || len(b) > 0 && x.Left()-1 < need {
		return blob.Ref{}, api.ErrFull
	}
	r := ref(b)
	for at := 0; at < len(b); at += size {
		i, e := x.Take()
		if e != api.OK {
			return blob.Ref{}, e
		}
		s := string(b[at:min(at+size, len(b))])
		for len(s) < size {
			s += "\x00"
		}
		if e := x.Write(i, []byte(s)); e != api.OK {
			return blob.Ref{}, e
		}
		r.Sectors = append(r.Sectors, i)
	}
	return r, api.OK
}

// put: the bytes stay as they were, and may be changed behind the call, as may the answer.
func (p *paper) put(b []byte) (blob.Ref, api.Errno) {
	p.t.Helper()
	room := append(bytes.Clone(b), data(2*size, 99)...)
	elder := string(room)
	r, e := blob.Put(p.its.x, room[:len(b)])
	want, told := p.putSays(b)
	if e != told || !sameRef(r, want) || e != api.OK && !none(r) {
		p.t.Fatalf("Put of %d bytes: %v, %d; not %v, %d", len(b), r, e, want, told)
	}
	if string(room) != elder {
		p.t.Fatalf("Put of %d bytes: they, or what is behind them, were changed", len(b))
	}
	spoil(room)
	spoilRef(r)
	p.look()
	return want, e
}

// puts: without an error.
func (p *paper) puts(b []byte) blob.Ref {
	p.t.Helper()
	r, e := p.put(b)
	if e != api.OK {
		p.t.Fatalf("Put of %d bytes: %d", len(b), e)
	}
	p.gets(r, b)
	return r
}

// dropSays: the words of Drop, done to the other side.
func (p *paper) dropSays(r blob.Ref) api.Errno {
	if !rightSays(r) {
		return api.ErrArg
	}
	for _, i := range r.Sectors {
		if e := p.mine.x.Give(i); e != api.OK {
			return e
		}
	}
	return api.OK
}

func (p *paper) drop(r blob.Ref) api.Errno {
	p.t.Helper()
	c := copied(r)
	e, want := blob.Drop(p.its.x, c), p.dropSays(r)
	if e != want {
		p.t.Fatalf("Drop of %v: %d, not %d", r, e, want)
	}
	if !sameRef(c, r) {
		p.t.Fatalf("Drop of %v: it was changed", r)
	}
	spoilRef(c)
	p.look()
	return e
}

// gets: the bytes are b, from the transaction.
func (p *paper) gets(r blob.Ref, b []byte) {
	p.t.Helper()
	if got, e := get(p.t, p.its.x.Read, r); e != api.OK || !bytes.Equal(got, b) {
		p.t.Fatalf("Get of %v: %d, %d bytes", r, e, len(got))
	}
	p.look()
}

// reader: a way to read sectors.
type reader = func(i int) ([]byte, api.Errno)

// getSays: the words of Get.
func getSays(read reader, r blob.Ref) ([]byte, api.Errno) {
	if !rightSays(r) {
		return nil, api.ErrArg
	}
	var all []byte
	for _, i := range r.Sectors {
		b, e := read(i)
		if e != api.OK {
			return nil, e
		}
		all = append(all, b...)
	}
	if len(all) < r.Len || string(sumOf(all[:r.Len])) != string(r.Sum) {
		return nil, api.ErrSum
	}
	return all[:r.Len], api.OK
}

// get: by the words, and in new memory each time; nothing that was handed in, or read, is changed.
func get(t *testing.T, read reader, r blob.Ref) ([]byte, api.Errno) {
	t.Helper()
	want, told := getSays(read, r)
	want = bytes.Clone(want)
	for range 2 {
		c := copied(r)
		var given [][]byte
		var elder []string
		b, e := blob.Get(func(i int) ([]byte, api.Errno) {
			b, e := read(i)
			given, elder = append(given, b), append(elder, string(b[:cap(b)]))
			return b, e
		}, c)
		if e != told || !bytes.Equal(b, want) || e != api.OK && b != nil {
			t.Fatalf("Get of %v: %d, %d bytes %.20x..; not %d, %d bytes %.20x..", r, e, len(b), b, told, len(want), want)
		}
		if !sameRef(c, r) {
			t.Fatalf("Get of %v: it was changed", r)
		}
		spoil(b)
		for k, g := range given {
			if string(g[:cap(g)]) != elder[k] {
				t.Fatalf("Get of %v: what was read was changed, or shares the answer's memory", r)
			}
		}
	}
	return want, told
}
