package space_test

import (
	"maps"
	"math/rand"
	"slices"
	"testing"

	"stele/api"
	"stele/disk"
	"stele/journal"
	"stele/space"
)

// P1105

func TestNotCommittedChangesNothing(t *testing.T) {
	p := mounted(t, small)
	x := p.open()
	x.takes(4)
	x.writes(root, 3, 1)
	x.done()
	seq := p.j.Seq()
	y := p.open()
	y.gives(51, 53)
	y.takes(3)
	y.gives(52)
	y.writes(root, 6, 21)
	p.look()
	z := p.open()
	if z.x.Free() != small-area-4 || p.j.Seq() != seq {
		t.Errorf("Free %d, Seq %d", z.x.Free(), p.j.Seq())
	}
	z.readAll()
	if l := z.takes(2); !slices.Equal(l, []int{55, 56}) {
		t.Errorf("taken: %v", l)
	}
	p.again()
	if l := p.open().takes(2); !slices.Equal(l, []int{55, 56}) {
		t.Errorf("taken behind a mount: %v", l)
	}
}

func TestCommittedIsThereAnew(t *testing.T) {
	p := mounted(t, small)
	for n := range 6 {
		x := p.open()
		l := x.takes(2)
		x.writes(l[0], 2, byte(10*n))
		x.writes(root, 1, byte(100+n))
		x.done()
		if n%2 == 1 {
			p.again()
		}
		y := p.open()
		if y.x.Free() != small-area-2*(n+1) {
			t.Errorf("Free %d behind %d transactions", y.x.Free(), n+1)
		}
		y.readAll()
	}
	x := p.open()
	x.gives(54, 60)
	x.done()
	p.again()
	if l := p.open().takes(3); !slices.Equal(l, []int{54, 60, 63}) {
		t.Errorf("taken: %v", l)
	}
}

// Nobody is given what another has, over many transactions, some of which are not committed.
func TestNobodyIsGivenWhatIsTaken(t *testing.T) {
	r := rand.New(rand.NewSource(1105))
	d, _ := disk.New(roomy)
	j, _ := journal.Mount(d)
	owned := map[int]int{} // the sector's owner
	taken, given, anew := 0, 0, 0
	once := map[int]int{}
	for owner := 1; owner <= 400; owner++ {
		x, e := space.Open(j)
		if e != api.OK {
			t.Fatalf("Open: %d", e)
		}
		now, back := maps.Clone(owned), 0
		for range r.Intn(30) {
			if all := slices.Sorted(maps.Keys(now)); len(all) > 0 && r.Intn(2) == 0 {
				i := all[r.Intn(len(all))]
				if e := x.Give(i); e != api.OK {
					t.Fatalf("Give(%d): %d", i, e)
				}
				delete(now, i)
				back++
				continue
			}
			i, e := x.Take()
			if len(now) == roomy-area {
				if e != api.ErrFull {
					t.Fatalf("all are taken: %d, %d", i, e)
				}
				continue
			}
			if now[i] != 0 || e != api.OK || i < area || i >= roomy {
				t.Fatalf("Take: %d, %d; it is owned by %d", i, e, now[i])
			}
			for k := area; k < i; k++ {
				if now[k] == 0 {
					t.Fatalf("Take: %d, though %d is free", i, k)
				}
			}
			now[i] = owner
			taken, anew = taken+1, anew+once[i]
			once[i] = 1
		}
		if x.Free() != roomy-area-len(now) {
			t.Fatalf("Free %d, %d are taken", x.Free(), len(now))
		}
		if r.Intn(3) > 0 {
			if e := x.Commit(); e != api.OK {
				t.Fatalf("Commit: %d", e)
			}
			owned, given = now, given+back
		}
		if r.Intn(10) == 0 {
			d.Crash(nil)
			j, _ = journal.Mount(d)
		}
		b, _ := j.Read(chart)
		for i := range roomy {
			if space.Taken(b, i) != (owned[i] != 0) {
				t.Fatalf("sector %d is owned by %d", i, owned[i])
			}
		}
		if space.Count(b, roomy) != len(owned) || string(b) != mapOf(slices.Collect(maps.Keys(owned))...) {
			t.Fatalf("the map: %x", b)
		}
	}
	if taken < 1000 || given < 500 || anew < 500 {
		t.Errorf("%d taken, %d given back, %d taken anew", taken, given, anew)
	}
}

func TestTwoDisksShareNothing(t *testing.T) {
	p, q := mounted(t, small), mounted(t, small)
	x, y := p.open(), q.open()
	x.takes(3)
	y.takes(1)
	y.writes(51, 1, 7)
	x.readAll()
	x.gives(51)
	p.wreck()
	if e := x.commit(); e != api.ErrDown {
		t.Errorf("Commit on a disk that is down: %d", e)
	}
	y.takes(1)
	y.done()
	q.again()
	p.again()
	if p.open().x.Free() != 13 || q.open().x.Free() != 11 {
		t.Errorf("Free %d and %d", p.open().x.Free(), q.open().x.Free())
	}
}

// change: one transaction that gives back, takes and writes.
func change(t *testing.T, j *journal.Journal) *space.Tx {
	t.Helper()
	x, e := space.Open(j)
	if e != api.OK {
		t.Fatalf("Open: %d", e)
	}
	e = x.Give(52)
	i, e2 := x.Take()
	k, e3 := x.Take()
	if e != api.OK || e2 != api.OK || e3 != api.OK || i != 52 || k != 54 {
		t.Fatalf("%d, %d, %d: taken %d and %d", e, e2, e3, i, k)
	}
	if e := x.Write(k, fill(99)); e != api.OK {
		t.Fatalf("Write: %d", e)
	}
	return x
}

// laid: a disk with three sectors taken.
func laid(t *testing.T) *paper {
	t.Helper()
	p := mounted(t, small)
	x := p.open()
	x.takes(3)
	x.writes(51, 3, 1)
	x.done()
	return p
}

// Cut off at each write, with each of those that were not flushed kept or lost.
func TestCutOffIsAllOrNothing(t *testing.T) {
	without, with := 0, 0
	for arm := 0; ; arm++ {
		answer := api.ErrDown
		for way := 0; ; way++ {
			p := laid(t)
			x := change(t, p.j)
			p.d.Arm(arm)
			answer = x.Commit()
			n := p.d.Cached()
			if way >= 1<<n {
				break
			}
			keep := make([]bool, n)
			for k := range keep {
				keep[k] = way>>k&1 == 1
			}
			p.d.Crash(keep)
			p.mount()
			b, _ := p.j.Read(chart)
			if string(b) != mapOf(51, 52, 53) {
				p.has[chart], p.has[52], p.has[54] = mapOf(51, 52, 53, 54), noughts(), filled(99)
				with++
			} else if answer == api.OK {
				t.Fatal("what was committed is lost")
			} else {
				without++
			}
			p.look()
			free := p.open().freeSays()
			if i, e := p.open().take(); i != free[0] || e != api.OK {
				t.Fatalf("Take: %d, %d", i, e)
			}
		}
		if answer == api.OK {
			break
		}
	}
	// Of three sectors: 1 + 2 + 4 ways among the slots and one ahead of the seal; then one behind it, and 2 + 4 + 1 ways among the places.
	if without != 8 || with != 8 {
		t.Errorf("%d times without, %d times with the transaction under way", without, with)
	}
}

func TestDeadBehindACommitThatWasCutOff(t *testing.T) {
	for arm := range 7 {
		p := laid(t)
		other := p.open()
		x := change(t, p.j)
		p.d.Arm(arm)
		if e := x.Commit(); e != api.ErrDown {
			t.Fatalf("Commit: %d", e)
		}
		p.d.Crash(nil)
		if _, e := x.Take(); e != api.ErrDown || x.Free() != small-area-4 || x.Left() != most-3 {
			t.Errorf("Take: %d, Free %d, Left %d", e, x.Free(), x.Left())
		}
		for _, y := range []*space.Tx{x, other.x} {
			if e := y.Give(51); e != api.ErrDown {
				t.Errorf("Give: %d", e)
			}
			if e := y.Write(51, fill(1)); e != api.ErrDown {
				t.Errorf("Write: %d", e)
			}
			if e := y.Commit(); e != api.ErrDown {
				t.Errorf("Commit: %d", e)
			}
		}
		if y, e := space.Open(p.j); y == nil || e != api.OK {
			t.Errorf("Open of a journal that can read: %v, %d", y, e)
		}
	}
}

// walk: steps of chance by the bytes that next tells, over up to three transactions.
func walk(t *testing.T, sectors, steps int, next func(n int) int) map[string]int {
	p := mounted(t, sectors)
	seen := map[string]int{}
	var l []*page
	for range steps {
		if len(l) == 0 || len(l) < 3 && next(6) == 0 {
			if x := p.open(); x != nil {
				l = append(l, x)
				seen["open"]++
			}
		}
		if len(l) == 0 || next(120) == 0 {
			if next(2) == 0 && len(l) > 0 {
				p.wreck()
				l[0].commit()
				seen["wreck"]++
			}
			p.again()
			l = nil
			seen["again"]++
			continue
		}
		step(l[next(len(l))], next, seen)
		l = slices.DeleteFunc(l, func(x *page) bool { return x.tried && next(3) > 0 })
	}
	p.again()
	p.open().readAll()
	return seen
}

// step: one call.
func step(x *page, next func(n int) int, seen map[string]int) {
	x.t.Helper()
	tell := func(call string, e api.Errno) {
		seen[call+" "+e.Error()]++
	}
	at := chart - 2 + next(x.sectors-chart+4)
	switch next(14) {
	case 0, 1, 2, 3, 4:
		_, e := x.take()
		tell("Take", e)
	case 5, 6, 7:
		tell("Give", x.give(at))
	case 8, 9:
		tell("Write", x.write(at, fill(byte(next(256)))))
	case 10:
		tell("Write", x.write(at, make([]byte, 510+next(4))))
	case 11, 12:
		_, e := x.read(at)
		tell("Read", e)
	case 13:
		tell("Commit", x.commit())
	}
}

func TestWalks(t *testing.T) {
	all := map[string]int{}
	for k, sectors := range []int{small, small + 3, 90, roomy, 200} {
		r := rand.New(rand.NewSource(int64(k)))
		for what, n := range walk(t, sectors, 12000, r.Intn) {
			all[what] += n
		}
	}
	for _, want := range []struct {
		call string
		e    api.Errno
	}{
		{"Take", api.OK}, {"Take", api.ErrFull}, {"Take", api.ErrDown},
		{"Give", api.OK}, {"Give", api.ErrSector}, {"Give", api.ErrDown},
		{"Write", api.OK}, {"Write", api.ErrSector}, {"Write", api.ErrArg}, {"Write", api.ErrDown},
		{"Read", api.OK}, {"Read", api.ErrSector},
		{"Commit", api.OK}, {"Commit", api.ErrDown},
	} {
		if n := all[want.call+" "+want.e.Error()]; n < 20 {
			t.Errorf("%s told error %d %d times alone", want.call, want.e, n)
		}
	}
	if all["again"] < 10 || all["wreck"] < 5 || all["open"] < 100 {
		t.Errorf("%v", all)
	}
}

func FuzzWalk(f *testing.F) {
	f.Add([]byte{0}, byte(0))
	f.Add([]byte("take and give and take again, then commit"), byte(3))
	f.Add([]byte{1, 2, 3, 4, 5, 6, 7, 8, 9, 10, 11, 12, 13, 14, 15, 250, 251, 252}, byte(200))
	f.Fuzz(func(t *testing.T, b []byte, more byte) {
		if len(b) == 0 || len(b) > 2000 {
			return
		}
		at := 0
		walk(t, small+int(more), len(b), func(n int) int {
			at++
			return (int(b[at%len(b)]) + at/len(b)*37) % n
		})
	})
}
