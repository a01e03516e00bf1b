package journal_test

import (
	"crypto/sha256"
	"encoding/hex"
	"fmt"
	"math"
	"slices"
	"strings"
	"testing"

	"stele/api"
	"stele/disk"
	"stele/journal"
)

// beside: sectors that are none of an area of that disk.
func beside(sectors int) []int {
	return []int{math.MinInt, math.MinInt32, -first, -1, 0, 1, 2, most - 1, most, sectors, sectors + 1, sectors + first, api.MaxDisk, api.MaxDisk + first, math.MaxInt32, math.MaxInt}
}

func TestFirst(t *testing.T) {
	if journal.First != first || api.MaxTx != most || api.Sector != size {
		t.Errorf("First %d, MaxTx %d, Sector %d", journal.First, api.MaxTx, api.Sector)
	}
}

// P1001

func TestMountOfNil(t *testing.T) {
	if j, e := journal.Mount(nil); j != nil || e != api.ErrNil {
		t.Errorf("Mount(nil): %v, %d", j, e)
	}
}

func TestMountOfNewDisk(t *testing.T) {
	for _, sectors := range []int{small, small + 1, roomy, api.MaxDisk} {
		p := mounted(t, sectors)
		if p.j.Seq() != 0 || p.j.Size() != sectors {
			t.Errorf("of %d: Seq %d, Size %d", sectors, p.j.Seq(), p.j.Size())
		}
		if w, f := p.d.Count(); w != 0 || f != 0 {
			t.Errorf("of %d: %d writes, %d flushes without a seal", sectors, w, f)
		}
		p.readAll()
	}
}

func TestMountOfDiskThatIsDown(t *testing.T) {
	p := blank(t, small)
	p.wreck()
	if j, e := journal.Mount(p.d); j != nil || e != api.ErrDown {
		t.Errorf("Mount: %v, %d", j, e)
	}
	q := mounted(t, small)
	q.does(map[int]byte{50: 1, 60: 2})
	q.wreck()
	if q.mount() {
		t.Error("a disk that is down is mounted")
	}
	q.crash(nil)
	if !q.mount() || q.j.Seq() != 1 {
		t.Errorf("behind the crash: Seq %d", q.j.Seq())
	}
}

// sealCase: a seal by hand, and the slots.
type sealCase struct {
	sectors int
	number  uint64
	places  []uint64
}

func sealCases() []sealCase {
	l := []sealCase{
		{small, 1, []uint64{50, 60}},
		{small, 1, nil},
		{small, 7, []uint64{49}},
		{small, 1 << 32, []uint64{63}},
		{small, 0, []uint64{55}},
		{small, math.MaxUint64, []uint64{49, 63}},
		{small, 3, []uint64{60, 50, 55}},
		{small, 4, []uint64{50, 51, 50}},
		{small, 5, []uint64{52, 52, 52, 52}},
		{api.MaxDisk, 6, []uint64{49, 1000, 4095}},
	}
	for _, n := range []int{1, 2, 14, 15, 47, 48} {
		c := sealCase{sectors: roomy, number: uint64(1000 + n)}
		for k := range n {
			c.places = append(c.places, uint64(first+k))
		}
		l = append(l, c)
	}
	return l
}

func TestMountOfSealThatHolds(t *testing.T) {
	for _, c := range sealCases() {
		p := blank(t, c.sectors)
		for i := first; i < p.v.sectors; i += 3 {
			p.set(i, filled(byte(200+i)))
		}
		data := filledEach(1, len(c.places))
		p.setSeal(sealText(c.number, c.places, data), data)
		w, f := p.d.Count()
		if !p.mount() || p.j.Seq() != c.number {
			t.Fatalf("%d, %v: Seq %d", c.number, c.places, p.j.Seq())
		}
		if w2, f2 := p.d.Count(); w2-w != uint64(len(c.places)) || f2-f != 1 || p.d.Cached() != 0 {
			t.Errorf("%v: %d writes, %d flushes, %d cached", c.places, w2-w, f2-f, p.d.Cached())
		}
		for k, at := range c.places {
			b, e := p.j.Read(int(at))
			if last := slices.Index(c.places[k+1:], at) < 0; e != api.OK || last && string(b) != data[k] {
				t.Errorf("%v: sector %d: %d, %.20x..", c.places, at, e, b)
			}
		}
		p.readAll()
		p.does(map[int]byte{51: 9})
	}
}

// wrongSeals: what looks nearly like a seal of sectors 50 and 60 with that data, on a small disk.
func wrongSeals(data []string) map[string]string {
	places, number := []uint64{50, 60}, uint64(1)
	head, all := sealHead(number, places), strings.Join(data, "")
	right := sum(head + all)
	l := map[string]string{
		"nothing":           noughts(),
		"no name":           padded(head[10:] + longPart('b', sum(head[10:]+all))),
		"no digest":         padded(head),
		"a digest cut":      padded(head + longPart('b', right[:31])),
		"a digest grown":    padded(head + longPart('b', right+"\x00")),
		"an empty digest":   padded(head + longPart('b', "")),
		"a digest as text":  padded(head + longPart('s', right)),
		"a digest bare":     padded(head + right),
		"of the data alone": padded(head + longPart('b', sum(all))),
		"of the parts":      padded(head + longPart('b', sum(head))),
		"of data first":     padded(head + longPart('b', sum(all+head))),
		"of another order":  padded(head + longPart('b', sum(head+data[1]+data[0]))),
		"of one sector":     padded(head + longPart('b', sum(head+data[0]))),
		"of three sectors":  padded(head + longPart('b', sum(head+all+noughts()))),
		"of its own mark":   padded(head + longPart('b', sum(head+"b\x00\x00\x00\x20"+all))),
		"in hex":            padded(head + longPart('b', hex.EncodeToString([]byte(right)))),
		"another number":    padded(sealHead(2, places) + longPart('b', right)),
		"another place":     padded(sealHead(1, []uint64{50, 61}) + longPart('b', right)),
		"fewer places":      padded(sealHead(1, places[:1]) + longPart('b', right)),
		"one not 0 behind":  padded(head + longPart('b', right))[:size-1] + "\x01",
		"a part behind":     padded(head + longPart('b', right) + "t"),
		"shifted":           padded("\x00" + head + longPart('b', right)),
	}
	for _, name := range []string{"", "s", "stel", "Stele", "STELE", "stelf", "stele\x00", "steles"} {
		h := longPart('s', name) + head[10:]
		l["name "+name] = padded(h + longPart('b', sum(h+all)))
	}
	h := longPart('b', "stele") + head[10:]
	l["a name as bytes"] = padded(h + longPart('b', sum(h+all)))
	h = head[:10] + listPart(2) + numberPart(1) + head[24:]
	l["number and list turned"] = padded(h + longPart('b', sum(h+all)))
	for _, n := range []int{0, 1, 3, 4, 5, 47, 48, 49, 256, 1 << 31, 1<<32 - 1} {
		h := head[:19] + listPart(n) + head[24:]
		l[fmt.Sprint("a list of ", n)] = padded(h + longPart('b', sum(h+all)))
	}
	for _, at := range []uint64{0, 1, 47, 48, 64, 65, 4095, 4096, 1<<16 + 50, 1<<31 + 50, 1<<32 + 50, 1<<63 + 50, 1<<64 - 1, 1<<64 - 14} {
		for _, l2 := range [][]uint64{{at, 60}, {50, at}} {
			l[fmt.Sprint("places ", l2)] = sealText(1, l2, data)
		}
	}
	return l
}

// unmoved: a mount of p finds no seal that holds, and leaves all as it is.
func unmoved(t *testing.T, what string, p *paper) {
	t.Helper()
	w, f := p.d.Count()
	if !p.mount() || p.j.Seq() != 0 {
		t.Fatalf("%s: Seq %d", what, p.j.Seq())
	}
	if w2, f2 := p.d.Count(); w2 != w || f2 != f {
		t.Errorf("%s: %d writes, %d flushes", what, w2-w, f2-f)
	}
}

func TestMountOfSealThatDoesNotHold(t *testing.T) {
	data := filledEach(1, 2)
	for what, seal := range wrongSeals(data) {
		p := blank(t, small)
		p.setSeal(seal, data)
		unmoved(t, what, p)
		p.does(map[int]byte{50: 9})
		if p.j.Seq() != 1 {
			t.Errorf("%s: the first transaction is the %dth", what, p.j.Seq())
		}
	}
}

func TestMountOfSealWithAnyByteTurned(t *testing.T) {
	data := filledEach(1, 2)
	seal := sealText(1, []uint64{50, 60}, data)
	p := blank(t, small)
	p.setSeal(seal, data)
	for at := range size {
		for _, by := range []byte{1, 0x80, 0xff} {
			b := []byte(seal)
			b[at] ^= by
			p.set(0, string(b))
			p.flush()
			unmoved(t, fmt.Sprint("byte ", at), p)
		}
	}
}

func TestMountOfSlotWithAByteTurned(t *testing.T) {
	data := filledEach(1, 3)
	seal := sealText(8, []uint64{50, 55, 60}, data)
	for slot := range 3 {
		for _, at := range []int{0, 1, 63, 64, 255, 256, 500, 511} {
			p := blank(t, small)
			p.setSeal(seal, data)
			b := []byte(data[slot])
			b[at] ^= 1
			p.set(1+slot, string(b))
			p.flush()
			unmoved(t, fmt.Sprint("slot ", slot), p)
		}
	}
	p := blank(t, small)
	p.setSeal(seal, []string{data[0], data[1], data[2], filled(99)})
	if !p.mount() || p.j.Seq() != 8 {
		t.Error("a slot behind those of the seal is looked at")
	}
	for _, l := range [][]string{{data[1], data[0], data[2]}, {data[0], data[1]}, {filled(9), data[0], data[1], data[2]}} {
		p := blank(t, small)
		p.setSeal(seal, l)
		unmoved(t, "other slots", p)
	}
}

// A seal of 49 or 50 sectors fits into one, and what stands behind the slots could be taken for more of them.
func TestMountOfSealWithTooManySectors(t *testing.T) {
	for n := most; n <= most+2; n++ {
		var places []uint64
		for k := range n {
			places = append(places, uint64(first+10+k))
		}
		data := filledEach(1, n)
		for _, of := range []int{n, most} {
			p := blank(t, roomy)
			p.setSeal(sealText(3, places, data[:of]), data)
			if n > most {
				unmoved(t, fmt.Sprint(n, " sectors"), p)
			} else if !p.mount() || p.j.Seq() != 3 {
				t.Errorf("%d sectors: Seq %d", n, p.j.Seq())
			}
		}
	}
}

func TestMountReadsWhatIsNotFlushed(t *testing.T) {
	data := filledEach(1, 2)
	p := blank(t, small)
	p.set(2, data[1])
	p.set(0, sealText(2, []uint64{50, 60}, data))
	p.set(1, data[0])
	if !p.mount() || p.j.Seq() != 2 || p.d.Cached() != 0 {
		t.Errorf("Seq %d, %d cached", p.j.Seq(), p.d.Cached())
	}
	p.crash(nil)
	p.readAll()
}

func TestMountBehindMount(t *testing.T) {
	p := mounted(t, small)
	p.does(run(50, 3, 1))
	p.does(run(52, 2, 11))
	area := p.areaOf()
	for range 3 {
		w, f := p.d.Count()
		if !p.mount() || p.j.Seq() != 2 || p.areaOf() != area {
			t.Fatalf("Seq %d, or another area", p.j.Seq())
		}
		if w2, f2 := p.d.Count(); w2-w != 2 || f2-f != 1 {
			t.Errorf("%d writes, %d flushes", w2-w, f2-f)
		}
	}
}

func TestTwoJournalsOfOneDisk(t *testing.T) {
	p := mounted(t, small)
	elder := p.j
	p.mount()
	p.does(map[int]byte{50: 1})
	if b, e := elder.Read(50); e != api.OK || string(b) != filled(1) || elder.Seq() != 0 || p.j.Seq() != 1 {
		t.Errorf("%d, %.20x.., Seq %d and %d", e, b, elder.Seq(), p.j.Seq())
	}
	p.arm(1)
	if p.begin().writes(run(50, 2, 9)).commit() != api.ErrDown {
		t.Error("the commit is not cut off")
	}
	p.crash(nil)
	if e := elder.Begin().Write(50, fill(1)); e != api.OK {
		t.Errorf("an error of one journal comes to the other: %d", e)
	}
}

func TestTwoDisksShareNothing(t *testing.T) {
	p, q := mounted(t, small), mounted(t, small)
	x, y := p.begin().writes(run(50, 2, 1)), q.begin().writes(run(51, 2, 5))
	p.arm(2)
	if x.commit() != api.ErrDown || y.commit() != api.OK {
		t.Error("the wrong one failed")
	}
	q.readAll()
	p.crash(nil)
	p.mount()
	p.readAll()
	q.look()
}

// P1002

func TestReadOfTheAreaAlone(t *testing.T) {
	for _, sectors := range []int{small, roomy, api.MaxDisk} {
		p := mounted(t, sectors)
		for _, i := range []int{0, 1, most, first, first + 1, sectors - 1} {
			p.set(i, filled(byte(i)))
		}
		for _, i := range []int{first, first + 1, first + 2, sectors - 2, sectors - 1} {
			p.read(i)
		}
		for _, i := range beside(sectors) {
			if i >= first && i < sectors {
				continue
			}
			if b, e := p.j.Read(i); b != nil || e != api.ErrSector {
				t.Errorf("Read(%d) of %d: %.20x.., %d", i, sectors, b, e)
			}
		}
		p.readAll()
	}
}

func TestReadOfDiskThatIsDown(t *testing.T) {
	p := mounted(t, small)
	p.wreck()
	for _, i := range beside(small) {
		p.read(i)
	}
	if p.dead {
		t.Fatal("a sector that is none of the area's is no error of the disk")
	}
	if e := p.begin().write(50, fill(1)); e != api.OK {
		t.Errorf("Write: %d, though no error came of the disk yet", e)
	}
	for _, i := range []int{first, 55, small - 1} {
		if b, e := p.j.Read(i); b != nil || e != api.ErrDown {
			t.Errorf("Read(%d): %.20x.., %d", i, b, e)
		}
		p.read(i)
	}
}

func TestReadIsNewMemory(t *testing.T) {
	p := mounted(t, small)
	x := p.does(map[int]byte{50: 1})
	for _, read := range []func(int) ([]byte, api.Errno){p.j.Read, x.x.Read} {
		a, _ := read(50)
		b, _ := read(50)
		spoil(a)
		if string(b) != filled(1) {
			t.Error("two answers share memory")
		}
		spoil(b)
	}
	p.readAll()
	x.readAll()
	p.look()
}

func TestSeqCountsCommits(t *testing.T) {
	p := mounted(t, small)
	for n := uint64(1); n <= 300; n++ {
		p.does(run(first+int(n%10), 1+int(n%5), byte(n)))
		if p.j.Seq() != n {
			t.Fatalf("Seq %d behind %d transactions", p.j.Seq(), n)
		}
		if n%50 == 0 {
			p.crash(nil)
			p.mount()
			p.readAll()
		}
	}
	if p.j.Seq() != 300 || p.j.Size() != small {
		t.Errorf("Seq %d, Size %d", p.j.Seq(), p.j.Size())
	}
}

func TestSeqIsOfTheJournalNotOfTheSealThen(t *testing.T) {
	p := mounted(t, small)
	p.does(map[int]byte{50: 1})
	p.set(0, noughts())
	p.flush()
	if p.j.Seq() != 1 {
		t.Errorf("Seq %d", p.j.Seq())
	}
	p.does(map[int]byte{51: 1})
	p.does(map[int]byte{52: 1})
	p.mount()
	if p.j.Seq() != 3 {
		t.Errorf("Seq %d behind a mount", p.j.Seq())
	}
}

func TestNilJournal(t *testing.T) {
	var j *journal.Journal
	for _, i := range append(beside(small), first, small-1) {
		if b, e := j.Read(i); b != nil || e != api.ErrNil {
			t.Errorf("Read(%d): %v, %d", i, b, e)
		}
	}
	if j.Seq() != 0 || j.Size() != 0 || j.Begin() != nil {
		t.Errorf("Seq %d, Size %d, Begin %v", j.Seq(), j.Size(), j.Begin())
	}
}

// P1003

func TestNilTransaction(t *testing.T) {
	var x *journal.Tx
	for _, i := range append(beside(small), first, small-1) {
		if b, e := x.Read(i); b != nil || e != api.ErrNil {
			t.Errorf("Read(%d): %v, %d", i, b, e)
		}
		for _, b := range [][]byte{nil, fill(1)} {
			if e := x.Write(i, b); e != api.ErrNil {
				t.Errorf("Write(%d): %d", i, e)
			}
		}
	}
	if x.Len() != 0 || x.Commit() != api.ErrNil || x.Commit() != api.ErrNil {
		t.Errorf("Len %d, Commit %d", x.Len(), x.Commit())
	}
}

func TestTransactionBeforeItsCommit(t *testing.T) {
	p := mounted(t, small)
	p.does(map[int]byte{50: 1, 51: 2})
	area := p.areaOf()
	x := p.begin().writes(map[int]byte{51: 12, 63: 13, first: 14})
	x.readAll()
	p.readAll()
	p.begin().readAll()
	p.look()
	if p.areaOf() != area || x.x.Len() != 3 || p.d.Cached() != 0 {
		t.Error("a write of a transaction came to the disk ahead of its commit")
	}
	if b, e := x.x.Read(51); e != api.OK || string(b) != filled(12) {
		t.Errorf("what the transaction has: %d, %.20x..", e, b)
	}
	if b, e := x.x.Read(50); e != api.OK || string(b) != filled(1) {
		t.Errorf("what the journal has: %d, %.20x..", e, b)
	}
	p.mount()
	if p.areaOf() != area {
		t.Error("a transaction that was not committed is there")
	}
}

func TestWriteTwice(t *testing.T) {
	p := mounted(t, small)
	x := p.begin()
	for mark := range 5 {
		x.writes(map[int]byte{50: byte(mark)})
		x.writes(map[int]byte{52: byte(10 + mark)})
		x.readAll()
	}
	if x.x.Len() != 2 {
		t.Errorf("Len %d", x.x.Len())
	}
	w, _ := p.d.Count()
	x.commit()
	if w2, _ := p.d.Count(); w2-w != 5 {
		t.Errorf("%d writes for two sectors", w2-w)
	}
	if b, _ := p.j.Read(50); string(b) != filled(4) {
		t.Errorf("%.20x.. is not what was written last", b)
	}
	p.readAll()
}

func TestWriteOfMostSectors(t *testing.T) {
	p := mounted(t, roomy)
	x := p.begin().writes(run(first, most, 1))
	for i := first + most; i < roomy; i++ {
		if e := x.write(i, fill(1)); e != api.ErrFull {
			t.Errorf("Write(%d), one more: %d", i, e)
		}
	}
	for i := first; i < first+most; i += 5 {
		if e := x.write(i, fill(byte(i))); e != api.OK {
			t.Errorf("Write(%d), one that it has: %d", i, e)
		}
	}
	x.readAll()
	if x.x.Len() != most || x.commit() != api.OK || p.j.Seq() != 1 {
		t.Errorf("Len %d, Seq %d", x.x.Len(), p.j.Seq())
	}
	p.crash(nil)
	p.mount()
	p.readAll()
	if b, _ := p.j.Read(first + most); p.j.Seq() != 1 || string(b) != noughts() {
		t.Errorf("Seq %d, behind the transaction %.20x..", p.j.Seq(), b)
	}
}

// standings: a transaction in each state that a call may find it in, on a roomy disk.
func standings(t *testing.T) map[string]*page {
	l := map[string]*page{}
	add := func(name string, of func(p *paper) *page) {
		p := mounted(t, roomy)
		p.does(run(60, 3, 77))
		l[name] = of(p)
	}
	add("empty", func(p *paper) *page { return p.begin() })
	add("of one", func(p *paper) *page { return p.begin().writes(run(61, 1, 5)) })
	add("one below full", func(p *paper) *page { return p.begin().writes(run(61, most-1, 5)) })
	add("full", func(p *paper) *page { return p.begin().writes(run(61, most, 5)) })
	add("committed", func(p *paper) *page { return p.does(run(61, 2, 5)) })
	add("committed full", func(p *paper) *page { return p.does(run(61, most, 5)) })
	add("committed empty", func(p *paper) *page { return p.does(nil) })
	add("committed, another behind it", func(p *paper) *page {
		x := p.does(run(61, 2, 5))
		p.does(run(61, 2, 25))
		return x
	})
	for arm := range 5 {
		add(fmt.Sprint("cut off at ", arm), func(p *paper) *page {
			x := p.begin().writes(run(61, 2, 5))
			p.arm(arm)
			x.commit()
			return x
		})
		add(fmt.Sprint("cut off and up again at ", arm), func(p *paper) *page {
			x := p.begin().writes(run(61, 2, 5))
			p.arm(arm)
			x.commit()
			p.crash([]bool{false, true})
			return x
		})
		add(fmt.Sprint("another cut off at ", arm), func(p *paper) *page {
			x, y := p.begin().writes(run(61, 2, 5)), p.begin().writes(run(60, 2, 15))
			p.arm(arm)
			y.commit()
			p.crash(nil)
			return x
		})
		add(fmt.Sprint("begun behind one cut off at ", arm), func(p *paper) *page {
			y := p.begin().writes(run(60, 2, 15))
			p.arm(arm)
			y.commit()
			return p.begin()
		})
	}
	add("down", func(p *paper) *page {
		x := p.begin().writes(run(61, 2, 5))
		p.wreck()
		return x
	})
	add("down and up again", func(p *paper) *page {
		x := p.begin().writes(run(61, 2, 5))
		p.wreck()
		p.crash(nil)
		return x
	})
	add("down and read", func(p *paper) *page {
		x := p.begin().writes(run(61, 2, 5))
		p.wreck()
		p.read(50)
		return x
	})
	add("down and read by another", func(p *paper) *page {
		x := p.begin().writes(run(61, 2, 5))
		p.wreck()
		p.begin().read(70)
		p.crash(nil)
		return x
	})
	add("empty and down", func(p *paper) *page {
		x := p.begin()
		p.wreck()
		return x
	})
	return l
}

func TestErrorsInTheirOrder(t *testing.T) {
	told := map[api.Errno]int{}
	for name, x := range standings(t) {
		t.Run(name, func(t *testing.T) {
			x.t = t
			for _, i := range append(beside(roomy), first, 50, 60, 61, 62, 61+most-1, 61+most, 62+most, roomy-2, roomy-1) {
				for _, n := range []int{0, 1, size - 1, size, size + 1, 2 * size} {
					if x.writeSays(i, n) == api.OK {
						told[api.OK]++
						continue
					}
					told[x.write(i, make([]byte, n))]++
				}
				if e := x.write(i, nil); e == api.OK {
					t.Errorf("Write(%d) of nil is taken", i)
				}
			}
			if x.x.Len() != len(x.has) {
				t.Errorf("a write that was refused changed Len")
			}
			for range 2 {
				x.length()
				x.look()
				x.readAll()
			}
		})
	}
	for _, e := range []api.Errno{api.OK, api.ErrDown, api.ErrSector, api.ErrArg, api.ErrFull} {
		if told[e] < 5 {
			t.Errorf("error %d was told %d times alone", e, told[e])
		}
	}
}

func TestTransactionStaysAsItIsBehindItsCommit(t *testing.T) {
	for name, x := range standings(t) {
		t.Run(name, func(t *testing.T) {
			x.t = t
			x.commit()
			for range 2 {
				if e := x.write(61, fill(1)); e != api.ErrDown {
					t.Errorf("Write: %d", e)
				}
				if e := x.commit(); e != api.ErrDown {
					t.Errorf("Commit: %d", e)
				}
				x.readAll()
				x.length()
				x.look()
			}
			x.paper.readAll()
			x.crash(nil)
			x.readAll()
			if e := x.commit(); e != api.ErrDown {
				t.Errorf("Commit behind a crash: %d", e)
			}
			x.mount()
			x.paper.readAll()
			x.does(map[int]byte{50: 1})
		})
	}
}

func TestTransactionsBesideOneAnother(t *testing.T) {
	p := mounted(t, small)
	x, y, z := p.begin().writes(run(50, 3, 1)), p.begin().writes(run(51, 3, 11)), p.begin()
	x.readAll()
	y.readAll()
	x.commit()
	y.readAll()
	z.readAll()
	z.writes(map[int]byte{52: 21})
	z.commit()
	y.commit()
	for _, l := range []*page{x, y, z} {
		l.readAll()
	}
	p.readAll()
	if p.j.Seq() != 3 {
		t.Errorf("Seq %d", p.j.Seq())
	}
}

// P1004

func TestExample(t *testing.T) {
	p := mounted(t, small)
	x := p.begin().writes(map[int]byte{50: 1, 60: 2})
	p.arm(3)
	if e := x.commit(); e != api.ErrDown {
		t.Fatalf("Commit: %d", e)
	}
	p.crash(nil)
	p.mount()
	a, _ := p.j.Read(50)
	b, _ := p.j.Read(60)
	if string(a) != filled(1) || string(b) != filled(2) || p.j.Seq() != 1 {
		t.Errorf("Mount does not bring both: %.12x.., %.12x.., Seq %d", a, b, p.j.Seq())
	}
}

func TestSealsBytes(t *testing.T) {
	d, _ := disk.New(small)
	j, _ := journal.Mount(d)
	x := j.Begin()
	x.Write(60, fill(2))
	x.Write(50, fill(1))
	if e := x.Commit(); e != api.OK {
		t.Fatalf("Commit: %d", e)
	}
	head := "s\x00\x00\x00\x05stele" + "u\x00\x00\x00\x00\x00\x00\x00\x01" + "l\x00\x00\x00\x02" +
		"u\x00\x00\x00\x00\x00\x00\x00\x32" + "u\x00\x00\x00\x00\x00\x00\x00\x3c"
	h := sha256.Sum256([]byte(head + filled(1) + filled(2)))
	want := head + "b\x00\x00\x00\x20" + string(h[:])
	seal, _ := d.Stable(0)
	if string(seal) != want+strings.Repeat("\x00", size-len(want)) {
		t.Errorf("the seal: %q", seal)
	}
	for i, mark := range map[int]byte{1: 1, 2: 2, 50: 1, 60: 2} {
		if b, _ := d.Stable(i); string(b) != filled(mark) {
			t.Errorf("sector %d: %.20x..", i, b)
		}
	}
}

// cutWrites: each write that the call does, and how many flushes it does ahead of that one, seen by cutting the call off at each write, with all kept.
func cutWrites(t *testing.T, start func() (*paper, func())) (seen []entry, flushes []uint64) {
	t.Helper()
	var before []string
	var ahead uint64
	for arm := 0; ; arm++ {
		p, call := start()
		_, f := p.d.Count()
		p.arm(arm)
		call()
		_, f2 := p.d.Count()
		cut := p.d.Down()
		p.crash(slices.Repeat([]bool{true}, p.d.Cached()))
		if arm > 0 {
			seen, flushes = append(seen, changed(t, p, before)), append(flushes, ahead)
		}
		if !cut {
			return seen, flushes
		}
		before, ahead = stableOf(p), f2-f
	}
}

// stableOf: each sector that a crash leaves.
func stableOf(p *paper) []string {
	var l []string
	for i := range p.v.sectors {
		b, _ := p.d.Stable(i)
		l = append(l, string(b))
	}
	return l
}

// changed: the one sector that is not as it was.
func changed(t *testing.T, p *paper, before []string) entry {
	t.Helper()
	var l []entry
	for i, text := range stableOf(p) {
		if text != before[i] {
			l = append(l, entry{i, text})
		}
	}
	if len(l) != 1 {
		t.Fatalf("%d sectors changed by one write", len(l))
	}
	return l[0]
}

func TestCommitWriteByWrite(t *testing.T) {
	for _, places := range [][]uint64{{50}, {49, 63}, {50, 55, 60}, {49, 50, 51, 52, 53, 54}} {
		n := len(places)
		start := func() (*paper, func()) {
			p := mounted(t, small)
			p.does(map[int]byte{50: 200})
			x := p.begin()
			// From behind, so that the order is that of the numbers.
			for k := n - 1; k >= 0; k-- {
				x.write(int(places[k]), fill(byte(1+k)))
			}
			return p, func() { x.commit() }
		}
		seen, flushes := cutWrites(t, start)
		data := filledEach(1, n)
		var want []entry
		var ahead []uint64
		for k := range n {
			want, ahead = append(want, entry{1 + k, data[k]}), append(ahead, 0)
		}
		want, ahead = append(want, entry{0, sealText(2, places, data)}), append(ahead, 1)
		for k := range n {
			want, ahead = append(want, entry{int(places[k]), data[k]}), append(ahead, 2)
		}
		if !slices.Equal(seen, want) || !slices.Equal(flushes, ahead) {
			t.Errorf("%v: writes to %v behind %v flushes", places, seen, flushes)
		}
		p, call := start()
		w, f := p.d.Count()
		call()
		if w2, f2 := p.d.Count(); w2-w != uint64(2*n+1) || f2-f != 3 || p.d.Cached() != 0 {
			t.Errorf("%v: %d writes, %d flushes, %d cached", places, w2-w, f2-f, p.d.Cached())
		}
	}
}

func TestMountWriteByWrite(t *testing.T) {
	for _, places := range [][]uint64{{50, 51}, {60, 50, 55}, {50, 51, 50, 52}} {
		data := filledEach(1, len(places))
		seen, flushes := cutWrites(t, func() (*paper, func()) {
			p := blank(t, small)
			p.setSeal(sealText(5, places, data), data)
			return p, func() { p.mount() }
		})
		if len(seen) != len(places) {
			t.Fatalf("%v: %d writes", places, len(seen))
		}
		for k, w := range seen {
			if w.at != int(places[k]) || w.text != data[k] || flushes[k] != 0 {
				t.Errorf("%v: write %d is to %d behind %d flushes", places, k, w.at, flushes[k])
			}
		}
	}
}

func TestEmptyCommit(t *testing.T) {
	p := mounted(t, small)
	p.does(map[int]byte{50: 1})
	w, f := p.d.Count()
	x := p.begin()
	if e := x.commit(); e != api.OK {
		t.Errorf("Commit: %d", e)
	}
	if w2, f2 := p.d.Count(); w2 != w || f2 != f || p.j.Seq() != 1 {
		t.Errorf("%d writes, %d flushes, Seq %d", w2-w, f2-f, p.j.Seq())
	}
	if e := x.write(50, fill(1)); e != api.ErrDown {
		t.Errorf("Write: %d", e)
	}
	if e := x.commit(); e != api.ErrDown {
		t.Errorf("Commit again: %d", e)
	}
	y := p.begin()
	y.write(48, fill(1))
	y.write(50, nil)
	if e := y.commit(); e != api.OK || p.j.Seq() != 1 {
		t.Errorf("of refused writes alone: %d, Seq %d", e, p.j.Seq())
	}
	z := p.begin()
	p.wreck()
	if e := z.commit(); e != api.OK {
		t.Errorf("on a disk that is down: %d", e)
	}
	v, u := p.begin(), p.begin().writes(run(50, 1, 2))
	if e := u.commit(); e != api.ErrDown {
		t.Errorf("one that is not empty: %d", e)
	}
	if e := v.commit(); e != api.ErrDown {
		t.Errorf("of a journal that is dead: %d", e)
	}
}

func TestCommitsOneBehindTheOther(t *testing.T) {
	p := mounted(t, small)
	for _, sectors := range []map[int]byte{run(50, 1, 1), run(50, 3, 11), run(first, 15, 21), run(small-1, 1, 41), run(51, 2, 11), run(first, 1, 51)} {
		p.does(sectors)
		p.readAll()
		q := p.twin()
		q.mount()
		q.readAll()
		if q.j.Seq() != p.j.Seq() || q.areaOf() != p.areaOf() {
			t.Errorf("mounted anew: Seq %d, not %d, or another area", q.j.Seq(), p.j.Seq())
		}
	}
	if p.j.Seq() != 6 {
		t.Errorf("Seq %d", p.j.Seq())
	}
}

func TestDeadJournal(t *testing.T) {
	for arm := range 5 {
		p := mounted(t, small)
		p.does(run(50, 2, 1))
		p.arm(arm)
		x := p.begin().writes(run(51, 2, 11))
		if e := x.commit(); e != api.ErrDown {
			t.Fatalf("Commit: %d", e)
		}
		for _, up := range []bool{false, true} {
			if up {
				p.crash(nil)
			}
			if p.j.Seq() != 1 || p.j.Size() != small {
				t.Errorf("Seq %d, Size %d", p.j.Seq(), p.j.Size())
			}
			if b, e := p.j.Read(50); (e == api.OK) != up || (len(b) > 0) != up {
				t.Errorf("Read, is it up %v: %d, %d bytes", up, e, len(b))
			}
			p.readAll()
			x.readAll()
			y := p.begin()
			if e := y.write(50, fill(1)); e != api.ErrDown {
				t.Errorf("Write: %d", e)
			}
			if e := y.commit(); e != api.ErrDown {
				t.Errorf("Commit: %d", e)
			}
			y.readAll()
		}
		if !p.mount() {
			t.Fatal("no mount behind the crash")
		}
		p.does(run(50, 2, 3))
	}
}

func TestCommitOfDiskThatWasDownUnseen(t *testing.T) {
	p := mounted(t, small)
	x := p.begin().writes(run(50, 2, 1))
	p.wreck()
	p.crash(nil)
	if e := x.commit(); e != api.OK || p.j.Seq() != 1 {
		t.Errorf("Commit: %d, Seq %d, though no error came to the journal", e, p.j.Seq())
	}
	p.readAll()
}
