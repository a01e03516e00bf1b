package space_test

import (
	"fmt"
	"maps"
	"slices"
	"testing"

	"stele/api"
	"stele/disk"
	"stele/journal"
	"stele/space"
)

// P1102

func TestOpenOfNil(t *testing.T) {
	if x, e := space.Open(nil); x != nil || e != api.ErrNil {
		t.Errorf("Open(nil): %v, %d", x, e)
	}
}

func TestOpenOfNewDisk(t *testing.T) {
	for _, sectors := range []int{small, small + 1, small + 7, small + 8, roomy, api.MaxDisk - 1, api.MaxDisk} {
		x := mounted(t, sectors).open()
		if x.x.Free() != sectors-area || x.x.Left() != most {
			t.Errorf("of %d: Free %d, Left %d", sectors, x.x.Free(), x.x.Left())
		}
		if i, e := x.take(); i != area || e != api.OK {
			t.Errorf("of %d: Take: %d, %d", sectors, i, e)
		}
	}
}

func TestOpenOfDiskThatIsDown(t *testing.T) {
	p := mounted(t, small)
	elder := p.open()
	p.wreck()
	if x, e := space.Open(p.j); x != nil || e != api.ErrDown {
		t.Fatalf("Open: %v, %d", x, e)
	}
	if p.open() != nil {
		t.Error("a transaction of a disk that is down")
	}
	p.crash()
	// The journal saw the error, and takes nothing more; to read goes on.
	x := p.open()
	for _, y := range []*page{elder, x} {
		if _, e := y.take(); e != api.ErrDown {
			t.Errorf("Take: %d", e)
		}
		y.readAll()
		if e := y.commit(); e != api.ErrDown {
			t.Errorf("Commit: %d", e)
		}
	}
	p.again()
	p.open().takes(3)
}

// mapsByHand: maps that stand there ahead, for a disk of that many sectors.
func mapsByHand(sectors int) map[string]string {
	full := from(0, 8*size)
	without := func(l ...int) string {
		return mapOf(slices.DeleteFunc(slices.Clone(full), func(i int) bool { return slices.Contains(l, i) })...)
	}
	return map[string]string{
		"nothing":            mapOf(),
		"all":                mapOf(full...),
		"all of the disk":    mapOf(from(0, sectors)...),
		"all given out":      mapOf(from(area, sectors)...),
		"the first":          mapOf(area),
		"the last":           mapOf(sectors - 1),
		"behind the last":    mapOf(from(sectors, min(sectors+1, 8*size))...),
		"all behind":         mapOf(from(sectors, 8*size)...),
		"all below":          mapOf(from(0, area)...),
		"Map and Root":       mapOf(chart, root),
		"below and behind":   mapOf(append(from(0, area), from(sectors, 8*size)...)...),
		"all but the first":  without(area),
		"all but the last":   without(sectors - 1),
		"all but behind":     without(sectors),
		"all but Root":       without(root),
		"all but Map":        without(chart),
		"two are free":       without(area+3, sectors-2),
		"every other":        mapText(number(fill0x(0x55))),
		"every other's next": mapText(number(fill0x(0xaa))),
		"any":                filled(77),
	}
}

// fill0x: a sector of that byte.
func fill0x(x byte) []byte { return slices.Repeat([]byte{x}, size) }

func TestOpenWithTheMapAsItStands(t *testing.T) {
	for _, sectors := range []int{small, small + 1, roomy, 8*size - 1, 8 * size} {
		for name, text := range mapsByHand(sectors) {
			p := mounted(t, sectors)
			p.hand(map[int]string{chart: text})
			for range 3 {
				x := p.open()
				for i := chart - 2; i < area+30; i++ {
					if e := x.giveSaysOnly(i); e != api.OK {
						x.give(i)
					}
				}
				for _, i := range beside(sectors) {
					x.give(i)
				}
				x.take()
				x.take()
				x.give(area)
				x.give(sectors - 1)
				if x.commit() != api.OK {
					t.Errorf("%s of %d: no commit", name, sectors)
				}
			}
			p.again()
		}
	}
}

// giveSaysOnly: what Give would tell, with nothing done.
func (x *page) giveSaysOnly(i int) api.Errno {
	y := *x
	y.own = maps.Clone(x.own)
	return y.giveSays(i)
}

func TestOpenReadsWhatIsNotFlushed(t *testing.T) {
	d, _ := disk.New(small)
	j, _ := journal.Mount(d)
	d.Write(chart, []byte(mapOf(area, area+2)))
	x, e := space.Open(j)
	if e != api.OK || x.Free() != small-area-2 {
		t.Fatalf("Open: %d, Free %d", e, x.Free())
	}
	if i, e := x.Take(); i != area+1 || e != api.OK {
		t.Errorf("Take: %d, %d", i, e)
	}
}

func TestTwoAtATimeKnowNothingOfOneAnother(t *testing.T) {
	p := mounted(t, small)
	x, y, z := p.open(), p.open(), p.open()
	x.takes(3)
	if x.x.Free() != 10 || y.x.Free() != 13 {
		t.Errorf("Free: %d and %d", x.x.Free(), y.x.Free())
	}
	x.writes(root, 2, 1)
	x.done()
	y.readAll()
	if e := y.give(area); e != api.ErrSector {
		t.Errorf("Give of what the other took: %d", e)
	}
	if l := y.takes(2); !slices.Equal(l, []int{area, area + 1}) {
		t.Errorf("the other takes %v", l)
	}
	y.done()
	if z.x.Free() != 13 {
		t.Errorf("Free of the third: %d", z.x.Free())
	}
	z.readAll()
	z.done()
	// The last one who wrote the map told what stands.
	w := p.open()
	if w.x.Free() != 11 {
		t.Errorf("Free behind both: %d", w.x.Free())
	}
	if i, e := w.take(); i != area+2 || e != api.OK {
		t.Errorf("Take behind both: %d, %d", i, e)
	}
}

func TestMapIsThatOfOpen(t *testing.T) {
	p := mounted(t, small)
	x := p.open()
	p.hand(map[int]string{chart: mapOf(from(area, small)...)})
	if l := x.takes(13); !slices.Equal(l, from(area, small)) {
		t.Errorf("taken: %v", l)
	}
	x.take()
	y := p.open()
	p.hand(map[int]string{chart: mapOf()})
	if i, e := y.take(); i != 0 || e != api.ErrFull {
		t.Errorf("Take: %d, %d", i, e)
	}
	y.gives(area + 1)
	y.done()
	if b, _ := p.j.Read(chart); string(b) != mapOf(append(from(area+2, small), area)...) {
		t.Errorf("the map: %x", b)
	}
}

// P1103

func TestExample(t *testing.T) {
	x := mounted(t, 64).open()
	a, e1 := x.x.Take()
	b, e2 := x.x.Take()
	e3 := x.x.Give(51)
	c, e4 := x.x.Take()
	if fmt.Sprint(a, b, c, int(e1+e2+e3+e4)) != "51 52 51 0" {
		t.Errorf("%d, %d, %d; %d, %d, %d, %d", a, b, c, e1, e2, e3, e4)
	}
}

func TestTakeAllAndOneMore(t *testing.T) {
	for _, sectors := range []int{small, small + 1, small + 9, roomy} {
		p := mounted(t, sectors)
		var l []int
		x := p.open()
		for len(x.freeSays()) > 0 {
			l = append(l, x.takes(min(most-1, len(x.freeSays())))...)
			x.done()
			x = p.open()
		}
		if !slices.Equal(l, from(area, sectors)) {
			t.Errorf("of %d: %v", sectors, l)
		}
		for range 2 {
			if i, e := x.x.Take(); i != 0 || e != api.ErrFull || x.x.Free() != 0 || x.x.Left() != most {
				t.Errorf("one more of %d: %d, %d; Free %d, Left %d", sectors, i, e, x.x.Free(), x.x.Left())
			}
		}
		for _, i := range []int{sectors - 1, area, (area + sectors) / 2} {
			x.gives(i)
			if e := x.give(i); e != api.ErrSector {
				t.Errorf("Give(%d) twice: %d", i, e)
			}
			if j, e := x.take(); j != i || e != api.OK {
				t.Errorf("Take behind Give(%d): %d, %d", i, j, e)
			}
			if i, e := x.take(); i != 0 || e != api.ErrFull {
				t.Errorf("one more: %d, %d", i, e)
			}
		}
		x.done()
	}
}

func TestTakeAllOfTheGreatestDisk(t *testing.T) {
	if testing.Short() {
		t.Skip("takes seconds")
	}
	p := mounted(t, api.MaxDisk)
	p.fillUp(0)
	x := p.open()
	if i, e := x.take(); i != 0 || e != api.ErrFull {
		t.Errorf("one more: %d, %d", i, e)
	}
	if b, _ := p.j.Read(chart); string(b) != mapOf(from(area, api.MaxDisk)...) {
		t.Error("the map is not full from Area on")
	}
	x.gives(api.MaxDisk - 1)
	if i, e := x.take(); i != api.MaxDisk-1 || e != api.OK {
		t.Errorf("the last one: %d, %d", i, e)
	}
}

func TestTakeTheLeast(t *testing.T) {
	p := mounted(t, small)
	p.fillUp(0)
	free := from(area, small)
	for ways := range 1 << len(free) {
		if testing.Short() && ways%17 != 0 {
			continue
		}
		x := p.open()
		var want []int
		for k, i := range free {
			if ways>>k&1 == 1 {
				want = append(want, i)
			}
		}
		// From behind, so that it is not the order of giving.
		for _, i := range slices.Backward(want) {
			if e := x.x.Give(i); e != api.OK {
				t.Fatalf("Give(%d): %d", i, e)
			}
		}
		if x.x.Free() != len(want) {
			t.Fatalf("Free of %v: %d", want, x.x.Free())
		}
		for _, i := range want {
			if at, e := x.x.Take(); at != i || e != api.OK {
				t.Fatalf("of %v: Take: %d, %d, not %d", want, at, e, i)
			}
		}
		if at, e := x.x.Take(); at != 0 || e != api.ErrFull {
			t.Fatalf("of %v: one more: %d, %d", want, at, e)
		}
	}
}

func TestTakenBytesAreNoughts(t *testing.T) {
	p := mounted(t, small)
	p.hand(map[int]string{51: filled(1), 52: filled(2), 53: filled(3)})
	x := p.open()
	if s, _ := x.read(51); s != filled(1) {
		t.Error("a sector that is free is not as it was")
	}
	for _, i := range x.takes(2) {
		if s, _ := x.read(i); s != noughts() {
			t.Errorf("sector %d: %.20x..", i, s)
		}
	}
	// Written, given back, taken again, in one transaction.
	x.writes(51, 2, 11)
	x.gives(51)
	if s, _ := x.read(51); s != filled(11) {
		t.Error("Give turned the bytes")
	}
	x.takes(1)
	if s, _ := x.read(51); s != noughts() {
		t.Errorf("taken again: %.20x..", s)
	}
	// Written while it is free.
	x.writes(53, 1, 21)
	x.takes(1)
	if s, _ := x.read(53); s != noughts() {
		t.Errorf("written while it was free: %.20x..", s)
	}
	x.writes(51, 2, 31)
	x.done()
	// Likewise in two.
	y := p.open()
	y.gives(51, 52)
	y.done()
	z := p.open()
	if s, _ := z.read(52); s != filled(32) {
		t.Error("a Give that is committed turned the bytes")
	}
	z.takes(2)
	for _, i := range []int{51, 52} {
		if s, _ := z.read(i); s != noughts() {
			t.Errorf("sector %d of the third: %.20x..", i, s)
		}
	}
	z.done()
	p.again()
	if b, e := p.j.Read(52); e != api.OK || string(b) != noughts() {
		t.Errorf("mounted anew: %d, %.20x..", e, b)
	}
}

func TestTakeAndGiveWriteTheMap(t *testing.T) {
	p := mounted(t, small)
	before := map[int]string{chart: filled(9), root: filled(5)}
	p.hand(before)
	x := p.open()
	n := number(fill(9))
	i, _ := x.take()
	if x.x.Left() != most-2 {
		t.Errorf("Left behind Take: %d", x.x.Left())
	}
	x.done()
	n.SetBit(n, i, 1)
	if b, _ := p.j.Read(chart); string(b) != mapText(n) {
		t.Errorf("the map: %x", b)
	}
	y := p.open()
	y.gives(i)
	if y.x.Left() != most-1 {
		t.Errorf("Left behind Give: %d", y.x.Left())
	}
	y.done()
	if b, _ := p.j.Read(chart); string(b) != filled(9) {
		t.Errorf("the map: %x", b)
	}
	if b, _ := p.j.Read(root); string(b) != filled(5) {
		t.Error("Root was written")
	}
}

func TestGiveOfWhatIsNotThere(t *testing.T) {
	for _, sectors := range []int{small, roomy, api.MaxDisk} {
		for _, text := range []string{mapOf(from(0, 8*size)...), mapOf(), mapOf(area, sectors-1)} {
			p := mounted(t, sectors)
			p.hand(map[int]string{chart: text})
			x := p.open()
			told := map[api.Errno]int{}
			for _, i := range append(beside(sectors), chart, root, sectors) {
				if i >= area && i < sectors {
					continue
				}
				if e := x.give(i); e != api.ErrSector {
					t.Errorf("Give(%d) of %d: %d", i, sectors, e)
				}
			}
			if x.x.Left() != most {
				t.Errorf("Left %d behind what was refused", x.x.Left())
			}
			for _, i := range []int{area, area + 1, sectors - 2, sectors - 1} {
				told[x.give(i)]++
				told[x.give(i)]++
			}
			if told[api.ErrSector] < 4 || told[api.OK]+told[api.ErrSector] != 8 {
				t.Errorf("of %d: %v", sectors, told)
			}
			x.done()
		}
	}
}

// Where the transaction has no room: for the sector, for the map, or for neither.
func TestTransactionThatIsFull(t *testing.T) {
	p := mounted(t, roomy)
	p.open().done()
	a := p.open()
	a.takes(2)
	a.done()

	x := p.open().writes(60, most-1, 1)
	if i, e := x.take(); i != 0 || e != api.ErrFull || x.x.Left() != 0 || x.x.Free() != roomy-area-2 {
		t.Errorf("room for the sector alone: %d, %d, Left %d, Free %d", i, e, x.x.Left(), x.x.Free())
	}
	if s, e := x.read(53); e != api.OK || s != noughts() {
		t.Errorf("what the first wrote: %d, %.20x..", e, s)
	}
	if e := x.give(51); e != api.ErrFull || x.x.Free() != roomy-area-2 {
		t.Errorf("Give without room for the map: %d, Free %d", e, x.x.Free())
	}
	x.done()

	// The sector is the transaction's already, the map is not.
	y := p.open().writes(53, most, 101)
	if i, e := y.take(); i != 0 || e != api.ErrFull {
		t.Errorf("no room for the map: %d, %d", i, e)
	}
	if s, _ := y.read(53); s != noughts() {
		t.Errorf("what the first wrote does not stay: %.20x..", s)
	}
	if e := y.give(53); e != api.ErrSector {
		t.Errorf("what was not taken is given back: %d", e)
	}
	if e := y.give(52); e != api.ErrFull {
		t.Errorf("Give without room for the map: %d", e)
	}
	y.done()
	if b, _ := p.j.Read(53); string(b) != noughts() {
		t.Error("what the first wrote is not committed")
	}

	// The map is the transaction's already, the sector is not.
	z := p.open()
	z.gives(51)
	z.writes(60, most-1, 51)
	if i, e := z.take(); i != 0 || e != api.ErrFull || z.x.Left() != 0 {
		t.Errorf("no room for the sector: %d, %d", i, e)
	}
	z.gives(52)
	if i, e := z.take(); i != 0 || e != api.ErrFull || z.x.Free() != roomy-area {
		t.Errorf("no room for the sector: %d, %d, Free %d", i, e, z.x.Free())
	}
	z.done()

	// Both are.
	w := p.open()
	w.takes(most - 1)
	if w.x.Left() != 0 {
		t.Errorf("Left %d behind %d taken", w.x.Left(), most-1)
	}
	if i, e := w.take(); i != 0 || e != api.ErrFull {
		t.Errorf("one more: %d, %d", i, e)
	}
	w.gives(55, 70)
	if l := w.takes(2); !slices.Equal(l, []int{55, 70}) {
		t.Errorf("given back and taken again: %v", l)
	}
	w.readAll()
	w.done()
	p.again()
}

func TestRoomForJustOneMore(t *testing.T) {
	for left := range 5 {
		for _, has := range []bool{false, true} {
			p := mounted(t, roomy)
			x := p.open()
			if has {
				x.takes(1)
			}
			n := x.x.Left() - left
			x.writes(roomy-n, n, 1)
			want := left - 1
			if has {
				want = left
			}
			for range max(want, 0) {
				if _, e := x.take(); e != api.OK {
					t.Errorf("Left %d, the map in it %v: %d", left, has, e)
				}
			}
			for range 3 {
				if i, e := x.take(); i != 0 || e != api.ErrFull {
					t.Errorf("Left %d, the map in it %v: one more: %d, %d", left, has, i, e)
				}
			}
			x.readAll()
			x.done()
		}
	}
}

// P1104

func TestNilTransaction(t *testing.T) {
	var x *space.Tx
	for _, i := range append(beside(small), chart, root, area, small-1) {
		if b, e := x.Read(i); b != nil || e != api.ErrNil {
			t.Errorf("Read(%d): %v, %d", i, b, e)
		}
		for _, b := range [][]byte{nil, {1}, fill(1)} {
			if e := x.Write(i, b); e != api.ErrNil {
				t.Errorf("Write(%d): %d", i, e)
			}
		}
		if e := x.Give(i); e != api.ErrNil {
			t.Errorf("Give(%d): %d", i, e)
		}
	}
	if i, e := x.Take(); i != 0 || e != api.ErrNil {
		t.Errorf("Take: %d, %d", i, e)
	}
	if e := x.Commit(); e != api.ErrNil || x.Free() != 0 || x.Left() != 0 {
		t.Errorf("Commit: %d, Free %d, Left %d", e, x.Free(), x.Left())
	}
}

func TestReadAndWriteFromRootOn(t *testing.T) {
	for _, sectors := range []int{small, roomy, api.MaxDisk} {
		p := mounted(t, sectors)
		x := p.open()
		x.takes(1)
		for _, i := range append(beside(sectors), chart) {
			if i >= root && i < sectors {
				continue
			}
			if b, e := x.x.Read(i); b != nil || e != api.ErrSector {
				t.Errorf("Read(%d) of %d: %.20x.., %d", i, sectors, b, e)
			}
			for _, b := range [][]byte{nil, fill(1)[1:], fill(1)} {
				if e := x.x.Write(i, b); e != api.ErrSector {
					t.Errorf("Write(%d) of %d: %d", i, sectors, e)
				}
			}
			x.read(i)
			x.write(i, fill(1))
		}
		// Whether it is taken is not asked.
		for k, i := range []int{root, area, area + 1, sectors - 2, sectors - 1} {
			x.read(i)
			x.writes(i, 1, byte(k))
			if s, e := x.read(i); e != api.OK || s != filled(byte(k)) {
				t.Errorf("Read(%d) of %d: %d, %.20x..", i, sectors, e, s)
			}
		}
		x.done()
		p.again()
		y := p.open()
		if s, _ := y.read(root); s != filled(0) {
			t.Errorf("Root of %d mounted anew: %.20x..", sectors, s)
		}
		if s, _ := y.read(sectors - 1); s != filled(4) {
			t.Errorf("the last of %d mounted anew: %.20x..", sectors, s)
		}
	}
}

func TestReadIsNewMemory(t *testing.T) {
	p := mounted(t, small)
	p.hand(map[int]string{51: filled(1)})
	x := p.open().writes(52, 1, 2)
	for i, want := range map[int]string{51: filled(1), 52: filled(2)} {
		a, _ := x.x.Read(i)
		b, _ := x.x.Read(i)
		spoil(a)
		if string(b) != want {
			t.Errorf("two answers of sector %d share memory", i)
		}
		spoil(b)
	}
	x.readAll()
	x.done()
}

func TestWriteIsNoTake(t *testing.T) {
	p := mounted(t, small)
	x := p.open().writes(area, 3, 1)
	if x.x.Free() != small-area || x.x.Left() != most-3 {
		t.Errorf("Free %d, Left %d", x.x.Free(), x.x.Left())
	}
	if e := x.give(area); e != api.ErrSector {
		t.Errorf("what was written alone is given back: %d", e)
	}
	x.done()
	if b, _ := p.j.Read(chart); string(b) != noughts() {
		t.Errorf("the map: %x", b)
	}
}

func TestEmptyCommit(t *testing.T) {
	p := mounted(t, small)
	x := p.open()
	x.done()
	if p.j.Seq() != 0 {
		t.Errorf("Seq %d", p.j.Seq())
	}
	if e := x.commit(); e != api.ErrDown {
		t.Errorf("Commit again: %d", e)
	}
	y := p.open()
	y.give(area)
	y.write(chart, fill(1))
	y.write(root, nil)
	y.read(chart)
	y.done()
	if p.j.Seq() != 0 {
		t.Errorf("of refused calls alone: Seq %d", p.j.Seq())
	}
}

// standings: transactions in each state that they may come to, with sectors 51 to 53 taken ahead.
func standings(t *testing.T) map[string]*page {
	l := map[string]*page{}
	add := func(name string, spare int, of func(p *paper) *page) {
		p := mounted(t, roomy)
		x := p.open()
		x.takes(3)
		x.done()
		if spare >= 0 {
			p.fillUp(spare)
		}
		l[name] = of(p)
	}
	for _, spare := range []int{-1, 0, 1} {
		of := fmt.Sprint(", free of ", spare)
		add("new"+of, spare, (*paper).open)
		add("with the map"+of, spare, func(p *paper) *page {
			x := p.open()
			x.gives(52)
			return x
		})
		add("with a sector"+of, spare, func(p *paper) *page { return p.open().writes(54, 1, 1) })
		add("one below full"+of, spare, func(p *paper) *page { return p.open().writes(54, most-1, 1) })
		add("full"+of, spare, func(p *paper) *page { return p.open().writes(54, most, 1) })
		add("full with the map"+of, spare, func(p *paper) *page {
			x := p.open()
			x.gives(52)
			return x.writes(54, most-1, 1)
		})
		add("committed empty"+of, spare, func(p *paper) *page {
			x := p.open()
			x.done()
			return x
		})
		add("committed"+of, spare, func(p *paper) *page {
			x := p.open()
			x.gives(52)
			x.done()
			return x
		})
		add("committed full"+of, spare, func(p *paper) *page {
			x := p.open().writes(54, most, 1)
			x.done()
			return x
		})
		add("down"+of, spare, func(p *paper) *page {
			x := p.open().writes(54, 1, 1)
			p.wreck()
			return x
		})
		add("down, unseen, and up"+of, spare, func(p *paper) *page {
			x := p.open().writes(54, 1, 1)
			p.wreck()
			p.crash()
			return x
		})
		add("down and read"+of, spare, func(p *paper) *page {
			x := p.open().writes(54, 1, 1)
			p.wreck()
			x.read(root)
			return x
		})
		add("down, opened, and up"+of, spare, func(p *paper) *page {
			x := p.open().writes(54, 1, 1)
			p.wreck()
			p.open()
			p.crash()
			return x
		})
		add("down and committed"+of, spare, func(p *paper) *page {
			x := p.open()
			x.gives(52)
			p.wreck()
			x.commit()
			return x
		})
		add("another committed on a disk that is down"+of, spare, func(p *paper) *page {
			x, y := p.open().writes(54, 2, 1), p.open()
			y.gives(52)
			p.wreck()
			y.commit()
			p.crash()
			return x
		})
	}
	return l
}

func TestErrorsInTheirOrder(t *testing.T) {
	told := map[string]map[api.Errno]int{"Take": {}, "Give": {}, "Write": {}, "Read": {}}
	for name, x := range standings(t) {
		t.Run(name, func(t *testing.T) {
			x.t = t
			for _, i := range append(beside(roomy), chart, root, area, 52, 53, 54, 55, 54+most-2, 54+most-1, 54+most, roomy-2, roomy-1) {
				for _, n := range []int{0, 1, size - 1, size + 1, 2 * size} {
					told["Write"][x.write(i, make([]byte, n))]++
				}
				if x.write(i, nil) == api.OK {
					t.Errorf("Write(%d) of nil is taken", i)
				}
				if i < root || i >= roomy || i == 54 || i == roomy-1 {
					told["Write"][x.write(i, fill(byte(i)))]++
				}
				if e := x.giveSaysOnly(i); e != api.OK {
					told["Give"][x.give(i)]++
				}
			}
			for range 3 {
				_, e := x.take()
				told["Take"][e]++
			}
			for _, i := range append(beside(roomy), 51, 53, 53, 52, 52, 54, roomy-1, roomy) {
				told["Give"][x.give(i)]++
			}
			for i := chart - 1; i < roomy+1; i++ {
				_, e := x.read(i)
				told["Read"][e]++
			}
			x.look()
		})
	}
	for call, want := range map[string][]api.Errno{
		"Take":  {api.OK, api.ErrFull, api.ErrDown},
		"Give":  {api.OK, api.ErrSector, api.ErrFull, api.ErrDown},
		"Write": {api.OK, api.ErrDown, api.ErrSector, api.ErrArg, api.ErrFull},
		"Read":  {api.OK, api.ErrSector, api.ErrDown},
	} {
		for _, e := range want {
			if told[call][e] < 3 {
				t.Errorf("%s told error %d %d times alone", call, e, told[call][e])
			}
		}
		if len(told[call]) != len(want) {
			t.Errorf("%s told %v", call, told[call])
		}
	}
}

func TestWhichErrorGoesAhead(t *testing.T) {
	p := mounted(t, small)
	p.fillUp(1)
	x := p.open()
	x.takes(1)
	x.done()
	// Committed: what is wrong with the argument, or with the map, is told first.
	if e := x.x.Write(chart, fill(1)); e != api.ErrSector {
		t.Errorf("Write of Map: %d", e)
	}
	if e := x.x.Write(chart, nil); e != api.ErrSector {
		t.Errorf("Write of Map and no bytes: %d", e)
	}
	if e := x.x.Write(root, nil); e != api.ErrDown {
		t.Errorf("Write of Root and no bytes: %d", e)
	}
	if e := x.x.Write(small, fill(1)); e != api.ErrDown {
		t.Errorf("Write behind the disk's last: %d", e)
	}
	if i, e := x.x.Take(); i != 0 || e != api.ErrFull {
		t.Errorf("Take, none is free: %d, %d", i, e)
	}
	for _, i := range []int{root, small} {
		if e := x.x.Give(i); e != api.ErrSector {
			t.Errorf("Give(%d): %d", i, e)
		}
	}
	if e := x.x.Give(area); e != api.ErrDown {
		t.Errorf("Give of one that is taken: %d", e)
	}
	if x.x.Free() != 0 || x.x.Left() != most-2 {
		t.Errorf("Free %d, Left %d", x.x.Free(), x.x.Left())
	}
	y := p.open()
	y.gives(area)
	y.done()
	if i, e := y.x.Take(); i != 0 || e != api.ErrDown {
		t.Errorf("Take, one is free: %d, %d", i, e)
	}
	if e := y.x.Give(area); e != api.ErrSector {
		t.Errorf("Give of one that is free: %d", e)
	}
}

func TestTransactionStaysAsItIsBehindItsCommit(t *testing.T) {
	for name, x := range standings(t) {
		t.Run(name, func(t *testing.T) {
			x.t = t
			x.commit()
			for range 2 {
				if e := x.write(root, fill(1)); e != api.ErrDown {
					t.Errorf("Write: %d", e)
				}
				if e := x.give(53); e != api.ErrDown {
					t.Errorf("Give: %d", e)
				}
				if i, e := x.take(); i != 0 || e != api.ErrDown && len(x.freeSays()) > 0 {
					t.Errorf("Take: %d, %d", i, e)
				}
				if e := x.commit(); e != api.ErrDown {
					t.Errorf("Commit: %d", e)
				}
				x.readAll()
				x.crash()
			}
			x.again()
			x.open().done()
			x.readAll()
		})
	}
}
