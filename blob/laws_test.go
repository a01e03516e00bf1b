package blob_test

import (
	"bytes"
	"maps"
	"math/rand"
	"slices"
	"testing"

	"stele/api"
	"stele/blob"
	"stele/disk"
	"stele/journal"
	"stele/space"
)

// P1204

func TestBackOfEachByte(t *testing.T) {
	for x := range 256 {
		for _, n := range []int{1, size, size + 1} {
			p := opened(t, small)
			b := bytes.Repeat([]byte{byte(x)}, n)
			r := p.puts(b)
			p.again().gets(r, b)
			if q, e := blob.Read(blob.Show(r)); e != api.OK || !sameRef(q, r) {
				t.Fatalf("%v: %v, %d", r, q, e)
			}
		}
	}
}

func TestOthersWritesDoNotMatter(t *testing.T) {
	p := opened(t, small)
	b := data(2*size+100, 1)
	r := p.puts(b)
	p.hand(root, 1).hand(54, small-54)
	p.gets(r, b)
	p.again().takes(3).gives(54, 56)
	p.gets(r, b)
	// Its own sector is written: it is told, unless it is as it was, or only what is behind the bytes is another.
	for at, want := range map[int]api.Errno{0: api.ErrSum, 99: api.ErrSum, 100: api.OK, size - 1: api.OK} {
		p.bothOK(func(s *side) api.Errno {
			c, _ := s.x.Read(53)
			c[at] ^= 1
			return s.x.Write(53, c)
		})
		if _, e := get(t, p.its.x.Read, r); e != want {
			t.Errorf("the byte %d of the last sector turned: %d, not %d", at, e, want)
		}
		p.bothOK(func(s *side) api.Errno {
			c, _ := s.x.Read(53)
			c[at] ^= 1
			return s.x.Write(53, c)
		})
		p.gets(r, b)
	}
}

// kept: what was put, by the bytes of its ref.
type kept map[string][]byte

// all: each of them is told as it was put, by a ref that went through bytes.
func (k kept) all(t *testing.T, read reader) {
	t.Helper()
	owned := map[int]int{}
	for _, shown := range slices.Sorted(maps.Keys(k)) {
		r, e := blob.Read([]byte(shown))
		if e != api.OK {
			t.Fatalf("Read of %x: %d", shown, e)
		}
		for _, i := range r.Sectors {
			if owned[i]++; owned[i] > 1 {
				t.Fatalf("sector %d is of two", i)
			}
		}
		if b, e := blob.Get(read, r); e != api.OK || !bytes.Equal(b, k[shown]) {
			t.Fatalf("Get of %v: %d, %d bytes", r, e, len(b))
		}
	}
}

// taken: how many sectors they have.
func (k kept) taken() int {
	n := 0
	for _, b := range k {
		n += needSays(len(b))
	}
	return n
}

// Bytes are put and dropped over many transactions, some of which are not committed, with crashes between.
func TestBackOverManyTransactions(t *testing.T) {
	r := rand.New(rand.NewSource(1204))
	d, _ := disk.New(roomy)
	j, _ := journal.Mount(d)
	has := kept{}
	told := map[api.Errno]int{}
	drops := 0
	for round := range 1500 {
		x, e := space.Open(j)
		if e != api.OK {
			t.Fatalf("Open: %d", e)
		}
		now := maps.Clone(has)
		for range r.Intn(6) {
			all := slices.Sorted(maps.Keys(now))
			if len(all) > 0 && r.Intn(3) == 0 {
				shown := all[r.Intn(len(all))]
				c, _ := blob.Read([]byte(shown))
				e := blob.Drop(x, c)
				if e != api.OK && e != api.ErrFull || e == api.ErrFull && x.Left() > 0 {
					t.Fatalf("Drop of %v: %d", c, e)
				}
				if e == api.OK {
					delete(now, shown)
					drops++
				}
				continue
			}
			b := data(r.Intn(greatest)>>r.Intn(6)+1, byte(round))
			c, e := blob.Put(x, b)
			if told[e]++; e == api.OK {
				now[string(blob.Show(c))] = b
			}
		}
		if x.Free() != roomy-area-now.taken() {
			t.Fatalf("Free %d, %d are taken", x.Free(), now.taken())
		}
		now.all(t, x.Read)
		has.all(t, j.Read)
		if r.Intn(3) > 0 {
			if e := x.Commit(); e != api.OK {
				t.Fatalf("Commit: %d", e)
			}
			has = now
		}
		if r.Intn(5) == 0 {
			d.Crash(nil)
			j, _ = journal.Mount(d)
		}
		has.all(t, j.Read)
	}
	if told[api.OK] < 500 || told[api.ErrFull] < 100 || len(told) != 2 || drops < 300 {
		t.Errorf("%v, %d dropped", told, drops)
	}
}

// The power goes at each write of a commit in which one is put and another dropped.
func TestCutOffIsAllOrNothing(t *testing.T) {
	elder, newer := data(3*size-1, 1), data(4*size+1, 2)
	without, with := 0, 0
	for arm, answer := 0, api.ErrDown; answer != api.OK; arm++ {
		for way := range 3 {
			d, _ := disk.New(small)
			j, _ := journal.Mount(d)
			x, _ := space.Open(j)
			old, _ := blob.Put(x, elder)
			x.Commit()
			x, _ = space.Open(j)
			e := blob.Drop(x, old)
			r, e2 := blob.Put(x, newer)
			if e != api.OK || e2 != api.OK {
				t.Fatalf("%d, %d", e, e2)
			}
			d.Arm(arm)
			answer = x.Commit()
			keep := make([]bool, d.Cached())
			for k := range keep {
				keep[k] = way == 2 || way == 1 && k%2 == 0
			}
			d.Crash(keep)
			j, _ = journal.Mount(d)
			a, ea := blob.Get(j.Read, old)
			b, eb := blob.Get(j.Read, r)
			x, _ = space.Open(j)
			switch {
			case ea == api.OK && bytes.Equal(a, elder) && eb == api.ErrSum && x.Free() == small-area-3 && answer == api.ErrDown:
				without++
			case eb == api.OK && bytes.Equal(b, newer) && ea == api.ErrSum && x.Free() == small-area-5:
				with++
			default:
				t.Fatalf("cut off at %d, %d: %d and %d, Free %d", arm, way, ea, eb, x.Free())
			}
		}
	}
	if without < 5 || with < 5 {
		t.Errorf("%d without, %d with it", without, with)
	}
}
