package disk_test

import (
	"bytes"
	"fmt"
	"math"
	"math/rand"
	"slices"
	"testing"

	"stele/api"
	"stele/disk"
)

// What the document's words say, on paper.

const (
	least = 64
	most  = 4096
	size  = 512
)

// entry: a write to a sector.
type entry struct {
	at   int
	text string
}

// paper: a disk beside what the words say of it. Each call is done to both and held against each other.
type paper struct {
	t       *testing.T
	d       *disk.Disk
	sectors int
	stable  map[int]string // none: all 0
	cached  []entry
	armed   []int // none, or the one number
	down    bool
	writes  uint64
	flushes uint64
}

// fresh: a new disk, and what is said of it.
func fresh(t *testing.T, sectors int) *paper {
	t.Helper()
	d, e := disk.New(sectors)
	if d == nil || e != api.OK {
		t.Fatalf("New(%d): %v, %d", sectors, d, e)
	}
	p := &paper{t: t, d: d, sectors: sectors, stable: map[int]string{}}
	p.look()
	return p
}

// noughts: a sector of them.
func noughts() string { return string(make([]byte, size)) }

// fill: a sector's bytes that differ from place to place, and from those of another mark in each place.
func fill(mark byte) []byte {
	b := make([]byte, size)
	for i := range b {
		b[i] = mark + byte(i/256)*7 + byte(i)
	}
	return b
}

// kept: what is stable of sector i.
func (p *paper) kept(i int) string {
	if s, ok := p.stable[i]; ok {
		return s
	}
	return noughts()
}

// seen: what a read of sector i tells.
func (p *paper) seen(i int) string {
	s := p.kept(i)
	for _, w := range p.cached {
		if w.at == i {
			s = w.text
		}
	}
	return s
}

func (p *paper) has(i int) bool { return 0 <= i && i < p.sectors }

// look: at what a disk tells of itself.
func (p *paper) look() {
	p.t.Helper()
	type face struct {
		size   int
		down   bool
		cached int
		w, f   uint64
	}
	w, f := p.d.Count()
	got, want := face{p.d.Size(), p.d.Down(), p.d.Cached(), w, f}, face{p.sectors, p.down, len(p.cached), p.writes, p.flushes}
	if got != want {
		p.t.Fatalf("Size, Down, Cached, Count: %v, not %v", got, want)
	}
}

// spoil: what was handed out, spare room too, so that a disk that kept it is found out later.
func spoil(b []byte) {
	b = b[:cap(b)]
	for i := range b {
		b[i] ^= 0xa5
	}
}

// told: bytes and an error, as they should be.
func (p *paper) told(what string, i int, b []byte, e api.Errno, text string, want api.Errno) {
	p.t.Helper()
	if e != want || string(b) != text {
		p.t.Fatalf("%s(%d): %d, %.20x.. of %d bytes; not %d, %.20x..", what, i, e, b, len(b), want, text)
	}
	spoil(b)
	p.look()
}

func (p *paper) read(i int) api.Errno {
	p.t.Helper()
	text, want := "", api.OK
	switch {
	case p.down:
		want = api.ErrDown
	case !p.has(i):
		want = api.ErrSector
	default:
		text = p.seen(i)
	}
	b, e := p.d.Read(i)
	p.told("Read", i, b, e, text, want)
	return e
}

func (p *paper) still(i int) api.Errno {
	p.t.Helper()
	text, want := "", api.ErrSector
	if p.has(i) {
		text, want = p.kept(i), api.OK
	}
	b, e := p.d.Stable(i)
	p.told("Stable", i, b, e, text, want)
	return e
}

// taken: the error of a write, and what it does.
func (p *paper) taken(i int, b []byte) api.Errno {
	switch {
	case p.down:
		return api.ErrDown
	case !p.has(i):
		return api.ErrSector
	case len(b) != size:
		return api.ErrArg
	case slices.Equal(p.armed, []int{0}):
		p.down = true
		return api.ErrDown
	}
	for k := range p.armed {
		p.armed[k]--
	}
	p.cached = append(p.cached, entry{i, string(b)})
	p.writes++
	return api.OK
}

func (p *paper) write(i int, b []byte) api.Errno {
	p.t.Helper()
	room := append(slices.Clone(b), "spare room"...)
	whole := slices.Clone(room)
	want := p.taken(i, b)
	e := p.d.Write(i, room[:len(b)])
	if e != want {
		p.t.Fatalf("Write(%d, of %d bytes): %d, not %d", i, len(b), e, want)
	}
	if !bytes.Equal(room, whole) {
		p.t.Fatalf("Write(%d, of %d bytes) changed what was handed in", i, len(b))
	}
	spoil(room)
	p.look()
	return e
}

func (p *paper) flush() api.Errno {
	p.t.Helper()
	want := api.ErrDown
	if !p.down {
		want = api.OK
		p.settle(func(int) bool { return true })
		p.flushes++
	}
	e := p.d.Flush()
	if e != want {
		p.t.Fatalf("Flush: %d, not %d", e, want)
	}
	p.look()
	return e
}

// settle: the cached writes that are to be done are done, nothing is cached then.
func (p *paper) settle(done func(place int) bool) {
	for k, w := range p.cached {
		if done(k) {
			p.stable[w.at] = w.text
		}
	}
	p.cached = nil
}

func (p *paper) arm(n int) {
	p.t.Helper()
	p.armed = nil
	if n >= 0 {
		p.armed = []int{n}
	}
	p.d.Arm(n)
	p.look()
}

func (p *paper) crash(keep ...bool) {
	p.t.Helper()
	p.settle(func(k int) bool { return k < len(keep) && keep[k] })
	p.down, p.armed = false, nil
	room := append(slices.Clone(keep), true, false, true)
	whole := slices.Clone(room)
	p.d.Crash(room[:len(keep)])
	if !slices.Equal(room, whole) {
		p.t.Fatal("Crash changed what was handed in")
	}
	p.look()
}

// all: each sector, and those next to the first and the last one.
func (p *paper) all() {
	p.t.Helper()
	for i := -1; i <= p.sectors; i++ {
		p.read(i)
		p.still(i)
	}
}

// wrong: sectors that a disk of n has not.
func wrong(n int) []int {
	return []int{-1, n, n + 1, -n, -2, 2 * n, most, most + 1, math.MinInt, math.MaxInt, math.MinInt32, math.MaxInt32, 1 << 32, -1 << 32}
}

// P901

func TestSizes(t *testing.T) {
	for _, n := range []int{least, least + 1, 100, 512, 1000, most - 1, most} {
		p := fresh(t, n)
		p.all()
		p.write(n-1, fill(1))
		p.arm(0)
		p.write(0, fill(2))
		p.all()
		p.crash(true)
		p.all()
	}
	for n := least; n <= least+200; n++ {
		fresh(t, n)
	}
}

func TestSizesThatCanNotBe(t *testing.T) {
	l := []int{least - 1, most + 1, 0, 1, -1, -least, -most, 2 * most, math.MinInt, math.MaxInt, 1 << 31, 1 << 32, 1<<32 + least, 1<<16 + least}
	for n := -10; n < least; n++ {
		l = append(l, n)
	}
	for n := most + 1; n < most+100; n++ {
		l = append(l, n)
	}
	for _, n := range l {
		if d, e := disk.New(n); d != nil || e != api.ErrArg {
			t.Errorf("New(%d): %v, %d", n, d, e)
		}
	}
}

func TestNilDisk(t *testing.T) {
	var d *disk.Disk
	for range 2 {
		for _, i := range append(wrong(0), 0, 1, least) {
			if b, e := d.Read(i); len(b) > 0 || e != api.ErrNil {
				t.Errorf("Read(%d): %v, %d", i, b, e)
			}
			if b, e := d.Stable(i); len(b) > 0 || e != api.ErrNil {
				t.Errorf("Stable(%d): %v, %d", i, b, e)
			}
			for _, n := range []int{0, 1, size - 1, size, size + 1} {
				if e := d.Write(i, make([]byte, n)); e != api.ErrNil {
					t.Errorf("Write(%d, of %d bytes): %d", i, n, e)
				}
			}
			if e := d.Write(i, nil); e != api.ErrNil {
				t.Errorf("Write(%d, nil): %d", i, e)
			}
		}
		if e := d.Flush(); e != api.ErrNil {
			t.Errorf("Flush: %d", e)
		}
		w, f := d.Count()
		if got := fmt.Sprint(d.Size(), d.Down(), d.Cached(), w, f); got != "0 true 0 0 0" {
			t.Errorf("Size, Down, Cached, Count: %s", got)
		}
		for _, n := range []int{-1, 0, 1, math.MinInt, math.MaxInt} {
			d.Arm(n)
		}
		d.Crash(nil)
		d.Crash([]bool{true, false})
	}
}

// P902

func TestWrittenAndReadBack(t *testing.T) {
	p := fresh(t, least)
	for i := range least {
		p.write(i, fill(byte(i+1)))
		p.read(i)
	}
	p.all()
	for i := range least {
		p.write(least-1-i, fill(byte(100+i)))
	}
	p.all()
}

func TestFirstAndLastSector(t *testing.T) {
	for _, n := range []int{least, least + 1, most} {
		p := fresh(t, n)
		for _, i := range []int{0, n - 1, 1, n - 2} {
			if e := p.write(i, fill(byte(i))); e != api.OK {
				t.Errorf("Write(%d) of %d: %d", i, n, e)
			}
		}
		p.all()
		p.flush()
		p.all()
	}
}

func TestLastOfSeveralWrites(t *testing.T) {
	p := fresh(t, least)
	for k := range 20 {
		p.write(7, fill(byte(k)))
		p.read(7)
		p.write(8+k%3, fill(byte(100+k)))
		p.read(7)
		p.read(8)
		p.still(7)
	}
	p.flush()
	p.read(7)
	p.write(7, fill(77))
	p.all()
	// Noughts that were written are no less than other bytes.
	p.write(7, make([]byte, size))
	p.all()
	p.crash(false, true)
	p.all()
}

func TestNoSuchSector(t *testing.T) {
	for _, n := range []int{least, most} {
		p := fresh(t, n)
		p.write(0, fill(1))
		for _, i := range wrong(n) {
			if i >= 0 && i < n {
				continue
			}
			for _, b := range [][]byte{fill(2), nil, {}, make([]byte, size-1), make([]byte, size+1)} {
				if e := p.write(i, b); e != api.ErrSector {
					t.Errorf("Write(%d, of %d bytes): %d", i, len(b), e)
				}
			}
			if r, s := p.read(i), p.still(i); r != api.ErrSector || s != api.ErrSector {
				t.Errorf("Read, Stable of %d: %d, %d", i, r, s)
			}
		}
		p.all()
	}
}

func TestNoSectorsBytes(t *testing.T) {
	p := fresh(t, least)
	p.write(5, fill(1))
	for n := range 3 * size {
		if n == size {
			continue
		}
		if e := p.write(5, bytes.Repeat([]byte{9}, n)); e != api.ErrArg {
			t.Errorf("Write of %d bytes: %d", n, e)
		}
	}
	if e := p.write(5, nil); e != api.ErrArg {
		t.Errorf("Write of nil: %d", e)
	}
	p.write(5, make([]byte, 1<<20))
	p.all()
}

// What is refused uses up no write, and takes no disk down.
func TestRefusedWritesOfAnArmedDisk(t *testing.T) {
	for n := range 4 {
		p := fresh(t, least)
		p.arm(n)
		refused := func() {
			for range 5 {
				if e := p.write(least, fill(1)); e != api.ErrSector {
					t.Errorf("no such sector: %d", e)
				}
				if e := p.write(-1, nil); e != api.ErrSector {
					t.Errorf("no such sector, no bytes: %d", e)
				}
				if e := p.write(0, fill(1)[1:]); e != api.ErrArg {
					t.Errorf("a byte is missing: %d", e)
				}
			}
		}
		for k := range n {
			refused()
			if e := p.write(k, fill(byte(k))); e != api.OK {
				t.Errorf("write %d of %d: %d", k, n, e)
			}
		}
		refused()
		if e := p.write(0, fill(3)); e != api.ErrDown || !p.d.Down() {
			t.Errorf("behind %d writes: %d", n, e)
		}
	}
}

// P903

func TestFlushed(t *testing.T) {
	p := fresh(t, least)
	p.write(3, fill(1))
	p.write(least-1, fill(2))
	p.all()
	p.flush()
	p.all()
	p.crash()
	p.all()
	// What was flushed is not in the cache any more.
	p.write(3, fill(3))
	p.flush()
	p.write(3, fill(4))
	p.flush()
	p.crash(true, true, true)
	p.all()
}

func TestFlushInOrder(t *testing.T) {
	p := fresh(t, least)
	for k := range 30 {
		p.write(k*k%5, fill(byte(k)))
	}
	p.flush()
	p.all()
	for k := range 30 {
		p.write(4-k*k%5, fill(byte(99-k)))
	}
	p.flush()
	p.all()
}

func TestFlushOfAnEmptyCache(t *testing.T) {
	p := fresh(t, least)
	for range 3 {
		if e := p.flush(); e != api.OK {
			t.Errorf("Flush: %d", e)
		}
	}
	p.all()
	p.write(1, fill(1))
	p.flush()
	p.flush()
	p.all()
	if w, f := p.d.Count(); w != 1 || f != 5 {
		t.Errorf("Count: %d, %d", w, f)
	}
}

func TestFlushOfADiskThatIsDown(t *testing.T) {
	p := fresh(t, least)
	p.write(1, fill(1))
	p.flush()
	p.write(1, fill(2))
	p.write(2, fill(3))
	p.arm(0)
	p.write(3, fill(4))
	for range 3 {
		if e := p.flush(); e != api.ErrDown {
			t.Errorf("Flush: %d", e)
		}
	}
	if p.d.Cached() != 2 {
		t.Errorf("Cached: %d", p.d.Cached())
	}
	p.all()
	p.crash(true, true)
	p.all()
	if e := p.flush(); e != api.OK {
		t.Errorf("Flush behind a crash: %d", e)
	}
}

// A flush is no write: it takes no disk down, and leaves it armed as it was.
func TestFlushOfAnArmedDisk(t *testing.T) {
	p := fresh(t, least)
	p.write(1, fill(1))
	p.arm(2)
	for k := range 2 {
		p.flush()
		p.flush()
		if e := p.write(k, fill(byte(k))); e != api.OK {
			t.Errorf("write %d: %d", k, e)
		}
	}
	for range 3 {
		if e := p.flush(); e != api.OK {
			t.Errorf("armed with 0: Flush: %d", e)
		}
	}
	p.all()
	if e := p.write(1, fill(9)); e != api.ErrDown {
		t.Errorf("armed with 0: Write: %d", e)
	}
	p.all()
}

// P904

func TestExample(t *testing.T) {
	p := fresh(t, least)
	p.write(3, fill(1))
	p.crash()
	if b, e := p.d.Read(3); e != api.OK || string(b) != noughts() {
		t.Errorf("lost: %d, %.20x..", e, b)
	}
	p.write(3, fill(1))
	p.crash(true)
	if b, e := p.d.Read(3); e != api.OK || !bytes.Equal(b, fill(1)) {
		t.Errorf("kept: %d, %.20x..", e, b)
	}
	p.all()
}

func TestArmed(t *testing.T) {
	for _, n := range []int{0, 1, 2, 3, 10, 100, 1000} {
		p := fresh(t, least)
		p.arm(n)
		for k := range n {
			if e := p.write(k%least, fill(byte(k))); e != api.OK || p.d.Down() {
				t.Fatalf("armed with %d: write %d: %d", n, k, e)
			}
			p.read(k % least)
		}
		if e := p.read(0); e != api.OK {
			t.Errorf("armed with %d, used up: Read: %d", n, e)
		}
		for range 3 {
			if e := p.write(1, fill(200)); e != api.ErrDown || !p.d.Down() {
				t.Errorf("armed with %d, used up: Write: %d, down %v", n, e, p.d.Down())
			}
		}
		p.all()
		p.crash()
		p.all()
		for range n + 3 {
			if e := p.write(1, fill(201)); e != api.OK {
				t.Errorf("armed with %d, behind the crash: Write: %d", n, e)
			}
		}
	}
}

func TestArmedWithTheGreatest(t *testing.T) {
	p := fresh(t, least)
	p.arm(math.MaxInt)
	for k := range 300 {
		p.write(k%least, fill(byte(k)))
	}
	p.all()
}

func TestNotArmed(t *testing.T) {
	many := func(p *paper) {
		for k := range 300 {
			if e := p.write(k%least, fill(byte(k))); e != api.OK {
				t.Fatalf("write %d: %d", k, e)
			}
		}
	}
	p := fresh(t, least)
	many(p)
	for _, n := range []int{-1, -2, -1000, math.MinInt, math.MinInt32} {
		// Armed below 0 after it was armed, with all of it, some of it or nothing left.
		for _, first := range []int{0, 1, 5} {
			p.arm(first)
			if first > 1 {
				p.write(0, fill(1))
			}
			p.arm(n)
			many(p)
			p.flush()
		}
	}
	p.all()
}

func TestArmedAnew(t *testing.T) {
	for _, first := range []int{-1, 0, 1, 2, 7} {
		for _, then := range []int{-1, 0, 1, 2, 7} {
			for used := 0; used <= first && used < 3; used++ {
				p := fresh(t, least)
				p.arm(first)
				for k := range used {
					p.write(k, fill(byte(k)))
				}
				p.arm(then)
				taken := 0
				for taken < 20 && p.write(9, fill(byte(taken))) == api.OK {
					taken++
				}
				if want := map[bool]int{true: 20, false: then}[then < 0]; taken != want {
					t.Errorf("armed with %d, %d used, then with %d: %d were taken", first, used, then, taken)
				}
			}
		}
	}
}

// To arm a disk that is down does not bring it up, and is forgotten by the crash.
func TestArmedWhileDown(t *testing.T) {
	for _, n := range []int{-1, 0, 1, 5, math.MaxInt, math.MinInt} {
		p := fresh(t, least)
		p.write(1, fill(1))
		p.arm(0)
		p.write(1, fill(2))
		p.arm(n)
		if e := p.write(1, fill(3)); e != api.ErrDown || !p.d.Down() {
			t.Errorf("armed with %d while down: Write: %d", n, e)
		}
		p.all()
		p.crash(true)
		for range 10 {
			if e := p.write(2, fill(4)); e != api.OK {
				t.Errorf("armed with %d while down, behind the crash: Write: %d", n, e)
			}
		}
		p.all()
	}
}

// A crash of a disk that is up loses and keeps likewise, and it is not armed then.
func TestCrashOfADiskThatIsUp(t *testing.T) {
	for n := range 5 {
		p := fresh(t, least)
		p.arm(n)
		for k := range n {
			p.write(k, fill(byte(k+1)))
		}
		p.crash(true, false, true)
		p.all()
		for k := range 10 {
			if e := p.write(k, fill(byte(k+9))); e != api.OK {
				t.Errorf("armed with %d ahead of the crash: Write: %d", n, e)
			}
		}
		p.all()
	}
}

func TestWhatADiskThatIsDownAnswers(t *testing.T) {
	p := fresh(t, least)
	p.write(1, fill(1))
	p.flush()
	p.write(1, fill(2))
	p.arm(0)
	p.write(2, fill(3))
	for _, i := range append(wrong(least), 0, 1, 2, least-1) {
		for _, b := range [][]byte{fill(2), nil, make([]byte, size-1), make([]byte, size+1)} {
			if e := p.write(i, b); e != api.ErrDown {
				t.Errorf("Write(%d, of %d bytes): %d", i, len(b), e)
			}
		}
		if e := p.read(i); e != api.ErrDown {
			t.Errorf("Read(%d): %d", i, e)
		}
		p.still(i)
	}
	p.all()
	p.crash()
	if p.d.Down() {
		t.Error("down behind a crash")
	}
	p.all()
}

// All ways to keep some of up to six writes, with lists that are shorter than the cache, as long, and longer.
func TestAllWaysToKeep(t *testing.T) {
	for n := range 7 {
		for long := range n + 3 {
			for bits := range 1 << long {
				for _, down := range []bool{false, true} {
					p := fresh(t, least)
					p.write(1, fill(50))
					p.flush()
					for k := range n {
						p.write(k*k%3, fill(byte(k+1)))
					}
					if down {
						p.arm(0)
						p.write(0, fill(99))
					}
					keep := make([]bool, long)
					for k := range keep {
						keep[k] = bits>>k&1 == 1
					}
					p.crash(keep...)
					for i := range 4 {
						p.read(i)
						p.still(i)
					}
				}
			}
		}
	}
}

func TestCrashOfAnEmptyCache(t *testing.T) {
	p := fresh(t, least)
	p.crash()
	p.crash(true, true, true)
	p.write(1, fill(1))
	p.flush()
	p.crash(true, false)
	p.all()
	p.write(1, fill(2))
	p.crash(true)
	// What was kept, or lost, comes no second time.
	p.crash(true)
	p.write(1, fill(3))
	p.crash(false)
	p.crash(true, true)
	p.all()
}

func TestKeepOfNothing(t *testing.T) {
	for _, keep := range [][]bool{nil, {}, {false}, {false, false, false, false}, make([]bool, 0, 10), slices.Repeat([]bool{true}, 10)[:0]} {
		p := fresh(t, least)
		p.write(1, fill(1))
		p.flush()
		p.write(1, fill(2))
		p.write(2, fill(3))
		p.cached = nil
		p.d.Crash(keep)
		p.all()
	}
}

// P905

func TestStable(t *testing.T) {
	p := fresh(t, least)
	p.write(4, fill(1))
	p.still(4)
	p.flush()
	p.still(4)
	p.write(4, fill(2))
	p.arm(0)
	p.still(4)
	p.write(4, fill(3))
	if e := p.still(4); e != api.OK {
		t.Errorf("Stable of a disk that is down: %d", e)
	}
	for _, i := range wrong(least) {
		if e := p.still(i); e != api.ErrSector {
			t.Errorf("Stable(%d) of a disk that is down: %d", i, e)
		}
	}
	p.crash(true)
	p.still(4)
	p.all()
}

func TestCountsOfAllThereEverWas(t *testing.T) {
	p := fresh(t, least)
	check := func(w, f uint64) {
		t.Helper()
		if a, b := p.d.Count(); a != w || b != f {
			t.Errorf("Count: %d, %d; not %d, %d", a, b, w, f)
		}
	}
	check(0, 0)
	p.write(1, fill(1))
	p.write(1, fill(1))
	check(2, 0)
	p.flush()
	check(2, 1)
	p.flush()
	check(2, 2)
	p.write(2, fill(2))
	p.crash()
	check(3, 2)
	p.crash(true)
	check(3, 2)
	p.write(least, fill(2))
	p.write(1, nil)
	check(3, 2)
	p.arm(1)
	p.write(1, fill(3))
	p.write(1, fill(4))
	p.write(1, fill(4))
	p.flush()
	check(4, 2)
	p.crash(true)
	check(4, 2)
	p.flush()
	check(4, 3)
	p.read(1)
	p.still(1)
	p.arm(3)
	check(4, 3)
}

// Rules 4 and 5 of the document

func TestBytesHandedInAndChangedSince(t *testing.T) {
	d, _ := disk.New(least)
	b := fill(1)
	d.Write(1, b)
	spoil(b)
	holds := func(i int, want []byte) {
		t.Helper()
		r, _ := d.Read(i)
		if !bytes.Equal(r, want) {
			t.Errorf("sector %d: %.20x..", i, r)
		}
	}
	holds(1, fill(1))
	b = fill(2)
	d.Write(2, b)
	d.Flush()
	spoil(b)
	holds(1, fill(1))
	holds(2, fill(2))
	b = fill(3)
	d.Write(2, b)
	d.Write(3, b)
	keep := []bool{true, true}
	d.Crash(keep)
	spoil(b)
	keep[0], keep[1] = false, false
	holds(2, fill(3))
	holds(3, fill(3))
}

func TestBytesGivenOutAndChangedSince(t *testing.T) {
	d, _ := disk.New(least)
	d.Write(1, fill(1))
	d.Flush()
	d.Write(1, fill(2))
	ask := func(call func(int) ([]byte, api.Errno), i int) []byte {
		b, _ := call(i)
		return b
	}
	for range 3 {
		one, two := ask(d.Read, 1), ask(d.Read, 1)
		three, four := ask(d.Stable, 1), ask(d.Stable, 1)
		none, void := ask(d.Read, 5), ask(d.Stable, 5)
		spoil(one)
		spoil(three)
		spoil(none)
		if !bytes.Equal(two, fill(2)) || !bytes.Equal(four, fill(1)) || string(void) != noughts() {
			t.Error("what was written into an answer is seen in another")
		}
		if !bytes.Equal(ask(d.Read, 1), fill(2)) || !bytes.Equal(ask(d.Stable, 1), fill(1)) || string(ask(d.Read, 5)) != noughts() {
			t.Error("what was written into an answer is seen on the disk")
		}
	}
	// An answer stays as it was, whatever is written later.
	was, still := ask(d.Read, 1), ask(d.Stable, 1)
	d.Write(1, fill(7))
	d.Flush()
	d.Write(1, fill(8))
	d.Crash(nil)
	if !bytes.Equal(was, fill(2)) || !bytes.Equal(still, fill(1)) {
		t.Error("an answer changed behind a write")
	}
}

func TestTwoDisksShareNothing(t *testing.T) {
	p, q := fresh(t, least), fresh(t, least)
	p.write(1, fill(1))
	q.write(1, fill(2))
	p.flush()
	q.all()
	q.arm(0)
	q.write(2, fill(3))
	p.write(2, fill(4))
	p.all()
	q.all()
	p.crash(true)
	q.all()
	q.crash()
	p.all()
	q.all()
}

// All of it, in any order

// step: what a number stands for, on a disk of which few sectors are used.
func (p *paper) step(n byte) {
	p.t.Helper()
	switch n {
	case 0:
		p.write(0, fill(byte(p.writes)+1))
	case 1:
		p.write(p.sectors-1, fill(byte(p.writes)+1))
	case 2:
		p.flush()
	case 3:
		p.crash()
	case 4:
		p.crash(true)
	case 5:
		p.crash(false, true)
	case 6:
		p.arm(0)
	case 7:
		p.arm(1)
	case 8:
		p.arm(-1)
	}
	for _, i := range []int{0, 1, p.sectors - 1} {
		p.read(i)
		p.still(i)
	}
}

const steps = 9

func TestAllShortWays(t *testing.T) {
	long := 5
	if testing.Short() {
		long = 4
	}
	ways := 1
	for range long {
		ways *= steps
	}
	for way := range ways {
		p := fresh(t, least)
		for rest := range long {
			n := way
			for range rest {
				n /= steps
			}
			p.step(byte(n % steps))
		}
	}
}

// randomStep: any call with any argument, most of them right ones.
func (p *paper) randomStep(r *rand.Rand) string {
	p.t.Helper()
	i := r.Intn(6) * (p.sectors - 1) / 5
	if r.Intn(20) == 0 {
		i = wrong(p.sectors)[r.Intn(3)]
	}
	switch n := r.Intn(20); n {
	default:
		b := fill(byte(r.Intn(256)))
		if r.Intn(20) == 0 {
			b = append(b, 1)[r.Intn(2)*2:]
		}
		return fmt.Sprint("Write ", int(p.write(i, b)))
	case 0, 1, 2, 3:
		return fmt.Sprint("Read ", int(p.read(i)))
	case 4, 5:
		return fmt.Sprint("Stable ", int(p.still(i)))
	case 6, 7:
		return fmt.Sprint("Flush ", int(p.flush()))
	case 8, 9:
		p.arm(r.Intn(12) - 2)
		return "Arm"
	case 10:
		keep := make([]bool, r.Intn(len(p.cached)+4))
		for k := range keep {
			keep[k] = r.Intn(2) == 0
		}
		p.crash(keep...)
		return "Crash"
	}
}

func TestSamples(t *testing.T) {
	r := rand.New(rand.NewSource(9))
	told := map[string]int{}
	for n := range 300 {
		p := fresh(t, least+n%7*n)
		for range 200 {
			told[p.randomStep(r)]++
		}
		for _, i := range rand.New(rand.NewSource(int64(n))).Perm(p.sectors)[:20] {
			p.read(i)
			p.still(i)
		}
		p.crash(true, true)
		p.all()
	}
	for _, kind := range []string{"Write 0", "Write 1", "Write 50", "Write 51", "Read 0", "Read 50", "Read 51", "Stable 0", "Stable 50", "Flush 0", "Flush 51", "Arm", "Crash"} {
		if told[kind] < 100 {
			t.Errorf("too few samples of %s: %v", kind, told)
		}
	}
}

// A cache of more writes than the disk has sectors.
func TestGreatCache(t *testing.T) {
	d, _ := disk.New(least)
	const n = 20000
	for k := range n {
		b := make([]byte, size)
		b[0], b[1], b[size-1] = byte(k), byte(k>>8), byte(k>>16)
		if e := d.Write(k%least, b); e != api.OK {
			t.Fatalf("write %d: %d", k, e)
		}
	}
	if d.Cached() != n {
		t.Errorf("Cached: %d", d.Cached())
	}
	keep := make([]bool, n)
	for k := range n / 2 {
		keep[k] = true
	}
	d.Crash(keep)
	for i := range least {
		want := n/2 - 1
		for want%least != i {
			want--
		}
		b, e := d.Read(i)
		if e != api.OK || int(b[0])|int(b[1])<<8|int(b[size-1])<<16 != want {
			t.Errorf("sector %d: %d, %x, not of write %d", i, e, b[:2], want)
		}
	}
	if w, f := d.Count(); w != n || f != 0 || d.Cached() != 0 {
		t.Errorf("Count, Cached: %d, %d, %d", w, f, d.Cached())
	}
}

func FuzzDisk(f *testing.F) {
	f.Add(uint8(0), []byte{0, 1, 2, 3, 4, 5, 6, 7, 8})
	f.Add(uint8(1), []byte{0, 0, 5, 7, 0, 0, 4, 1, 2})
	f.Add(uint8(255), []byte{6, 8, 0, 6, 0, 2, 3})
	f.Fuzz(func(t *testing.T, more uint8, l []byte) {
		p := fresh(t, least+int(more))
		for _, n := range l {
			if n < steps {
				p.step(n)
				continue
			}
			p.write(int(n)-20, fill(n))
			p.read(int(n) - 20)
		}
		p.crash(true, false, true)
		p.all()
	})
}
