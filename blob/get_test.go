package blob_test

import (
	"bytes"
	"fmt"
	"math"
	"slices"
	"testing"

	"stele/api"
	"stele/blob"
	"stele/space"
)

// shelf: sectors by hand, and which of them were asked for.
type shelf struct {
	has   map[int][]byte
	fails map[int]api.Errno
	asked []int
}

// shelved: the bytes in these sectors, filled by 0.
func shelved(b []byte, sectors ...int) *shelf {
	s := &shelf{has: map[int][]byte{}, fails: map[int]api.Errno{}}
	full := append(bytes.Clone(b), make([]byte, len(sectors)*size-len(b))...)
	for k, i := range sectors {
		s.has[i] = full[k*size : (k+1)*size : (k+1)*size]
	}
	return s
}

// read: bytes come along with an error too, though nobody may look at them.
func (s *shelf) read(i int) ([]byte, api.Errno) {
	s.asked = append(s.asked, i)
	b, ok := s.has[i]
	if !ok {
		return nil, api.ErrSector
	}
	return bytes.Clone(b), s.fails[i]
}

// P1202: Get

func TestGetOfEachLength(t *testing.T) {
	for _, n := range lengths() {
		b := data(n, byte(n))
		r := ref(b, from(area, needSays(n))...)
		if got, e := get(t, shelved(b, r.Sectors...).read, r); e != api.OK || !bytes.Equal(got, b) {
			t.Fatalf("of %d bytes: %d", n, e)
		}
	}
}

// Each sector is asked for once, in the ref's order, whatever their numbers are.
func TestGetReadsInOrder(t *testing.T) {
	for _, l := range [][]int{{area}, {great - 1}, {52, 51}, {great - 1, area}, {70, 60, 4000, 51, 53}, {62, 61, 60, 59, 58, 57, 56, 55, 54, 53, 52, 51}, from(great-many, many)} {
		b := data(len(l)*size-5, 3)
		s := shelved(b, l...)
		got, e := blob.Get(s.read, ref(b, l...))
		if e != api.OK || !bytes.Equal(got, b) || !slices.Equal(s.asked, l) {
			t.Errorf("of %v: %d, %d bytes, asked for %v", l, e, len(got), s.asked)
		}
		get(t, s.read, ref(b, l...))
	}
}

func TestGetOfNoByte(t *testing.T) {
	fails := func(int) ([]byte, api.Errno) { return data(size, 1), api.ErrDown }
	var x *space.Tx
	for name, read := range map[string]reader{"a read that fails": fails, "a nil transaction's": x.Read} {
		for _, r := range []blob.Ref{ref(nil), {Sum: sumOf(nil), Sectors: []int{}}} {
			if b, e := get(t, read, r); e != api.OK || len(b) != 0 {
				t.Errorf("%s: %x, %d", name, b, e)
			}
		}
		r := ref(nil)
		r.Sum = sumOf([]byte{0})
		if b, e := get(t, read, r); e != api.ErrSum || b != nil {
			t.Errorf("%s, another sum: %x, %d", name, b, e)
		}
	}
}

func TestGetOfRefsThatAreNotRight(t *testing.T) {
	for name, r := range wrongRefs() {
		if rightSays(r) {
			t.Fatalf("%s: it is right", name)
		}
		// ErrArg goes ahead of an error of read, and of another sum.
		for _, told := range []api.Errno{api.OK, api.ErrDown} {
			asked := 0
			b, e := blob.Get(func(int) ([]byte, api.Errno) {
				asked++
				return data(size, 1), told
			}, r)
			if e != api.ErrArg || b != nil || asked > 0 {
				t.Errorf("%s: %.20x.., %d, %d sectors read", name, b, e, asked)
			}
		}
	}
}

func TestGetOfReadsThatFail(t *testing.T) {
	l := []int{60, 51, 90, 52, 53}
	b := data(5*size-1, 1)
	r := ref(b, l...)
	for _, told := range []api.Errno{api.ErrDown, api.ErrSector, api.ErrNil, api.ErrArg, api.ErrSum, api.ErrChain, -1, 9999, math.MaxInt, math.MinInt} {
		for k, i := range l {
			s := shelved(b, l...)
			s.fails[i] = told
			if got, e := get(t, s.read, r); e != told || got != nil {
				t.Errorf("sector %d fails: %d, not %d", i, e, told)
			}
			s.asked = nil
			// The others fail otherwise: the first one's is told.
			for _, j := range l[k+1:] {
				s.fails[j] = 77
			}
			if got, e := blob.Get(s.read, r); e != told || got != nil || !slices.Equal(s.asked, l[:k+1]) {
				t.Errorf("sector %d and those behind fail: %d, not %d; read %v", i, e, told, s.asked)
			}
			// What was read ahead is wrong, too: that is told behind the errors of read.
			for _, j := range l[:k] {
				s.has[j] = data(size, 200)
			}
			if got, e := get(t, s.read, r); e != told || got != nil {
				t.Errorf("sector %d fails, those ahead are others: %d, not %d", i, e, told)
			}
		}
	}
}

func TestGetOfReadsOfOtherLengths(t *testing.T) {
	l := []int{60, 51, 90}
	b := data(2*size+100, 1)
	r := ref(b, l...)
	told := map[api.Errno]int{}
	for k := range l {
		for _, n := range []int{0, 1, 99, 100, 101, 411, 412, size - 1, size, size + 1, size + 100, 2 * size, 3 * size, 1 << 16} {
			s := shelved(b, l...)
			s.has[l[k]] = append(s.has[l[k]], data(1<<16, 9)...)[:n]
			_, e := get(t, s.read, r)
			told[e]++
			// In the last one just so many bytes count as Len leaves for it; ahead of it all do.
			if want := k < 2 && n == size || k == 2 && n >= 100; want != (e == api.OK) || !want && e != api.ErrSum {
				t.Errorf("sector %d of %d bytes: %d", l[k], n, e)
			}
		}
	}
	if told[api.OK] < 5 || told[api.ErrSum] < 5 {
		t.Errorf("%v", told)
	}
	for _, give := range [][]byte{nil, {}} {
		if got, e := get(t, func(int) ([]byte, api.Errno) { return give, api.OK }, r); e != api.ErrSum || got != nil {
			t.Errorf("nothing is read: %d", e)
		}
		// Not even the digest of no byte makes up for bytes that are not there.
		q := r
		q.Sum = sumOf(nil)
		if got, e := get(t, func(int) ([]byte, api.Errno) { return give, api.OK }, q); e != api.ErrSum || got != nil {
			t.Errorf("nothing is read, with its digest: %d", e)
		}
	}
	q := r
	q.Sum = sumOf(b[:2*size])
	s := shelved(b, l...)
	s.has[90] = nil
	if got, e := get(t, s.read, q); e != api.ErrSum || got != nil {
		t.Errorf("less than Len is read, with its digest: %d", e)
	}
}

func TestGetOfChangedBytes(t *testing.T) {
	for _, n := range []int{1, size - 1, size, size + 1, 2*size - 3} {
		b := data(n, 1)
		l := from(area, needSays(n))
		for at := range len(l) * size {
			for _, turn := range []byte{1, 0x80} {
				s := shelved(b, l...)
				s.has[l[at/size]][at%size] ^= turn
				want := api.ErrSum
				if at >= n {
					want = api.OK
				}
				if _, e := get(t, s.read, ref(b, l...)); e != want {
					t.Fatalf("of %d bytes the one at %d turned: %d, not %d", n, at, e, want)
				}
			}
		}
	}
}

func TestGetByAnotherRef(t *testing.T) {
	b := data(3*size-9, 1)
	l := []int{70, 60, 80}
	s := shelved(b, l...)
	for bit := range 256 {
		r := ref(b, l...)
		r.Sum[bit/8] ^= 1 << (bit % 8)
		if got, e := get(t, s.read, r); e != api.ErrSum || got != nil {
			t.Fatalf("the bit %d of the sum turned: %d", bit, e)
		}
	}
	for n := 2*size + 1; n <= 3*size; n++ {
		r := ref(b, l...)
		r.Len = n
		if _, e := get(t, s.read, r); (e == api.OK) != (n == len(b)) {
			t.Fatalf("length %d: %d", n, e)
		}
	}
	for _, other := range [][]int{{60, 70, 80}, {70, 80, 60}, {80, 60, 70}, {60, 80, 70}} {
		if got, e := get(t, s.read, ref(b, other...)); e != api.ErrSum || got != nil {
			t.Errorf("sectors %v: %d", other, e)
		}
	}
	// Sectors of the same bytes may stand for one another.
	alike := slices.Repeat(data(size, 5), 3)
	if _, e := get(t, shelved(alike, l...).read, ref(alike, 60, 80, 70)); e != api.OK {
		t.Errorf("sectors that are alike: %d", e)
	}
}

func TestGetByReadsThatAreNone(t *testing.T) {
	b := data(size+1, 1)
	for _, r := range []blob.Ref{ref(b, 51, 52), ref(nil), {}, {Len: -1}} {
		if got, e := blob.Get(nil, r); e != api.ErrNil || got != nil {
			t.Errorf("nil, of %v: %d", r, e)
		}
	}
	var x *space.Tx
	if got, e := blob.Get(x.Read, ref(b, 51, 52)); e != api.ErrNil || got != nil {
		t.Errorf("a nil transaction's: %d", e)
	}
	if got, e := blob.Get(x.Read, ref(b, 51)); e != api.ErrArg || got != nil {
		t.Errorf("a nil transaction's, of one that is not right: %d", e)
	}
	for k := range 2 {
		s := shelved(b, 51, 52)
		got, e := blob.Get(func(i int) ([]byte, api.Errno) {
			if i == 51+k {
				panic("no")
			}
			return s.read(i)
		}, ref(b, 51, 52))
		if e != api.ErrArg || got != nil {
			t.Errorf("one that panics at %d: %d", 51+k, e)
		}
	}
}

// One piece of memory for all that is read.
func TestGetOfReadsThatShareMemory(t *testing.T) {
	b := data(3*size, 1)
	s := shelved(b, 51, 52, 53)
	piece := make([]byte, size)
	got, e := blob.Get(func(i int) ([]byte, api.Errno) {
		copy(piece, s.has[i])
		return piece, api.OK
	}, ref(b, 51, 52, 53))
	if spoil(piece); e != api.OK || !bytes.Equal(got, b) {
		t.Errorf("Get: %d, %.20x..", e, got)
	}
}

func TestGetOfDisks(t *testing.T) {
	p := opened(t, small)
	b := data(2*size+1, 1)
	r := p.puts(b)
	// The journal does not know of it yet.
	if _, e := get(t, p.its.j.Read, r); e != api.ErrSum {
		t.Errorf("ahead of the commit: %d", e)
	}
	p.commit()
	for name, read := range map[string]reader{"the transaction": p.its.x.Read, "the journal": p.its.j.Read, "the disk": p.its.d.Read, "what is stable": p.its.d.Stable} {
		if got, e := get(t, read, r); e != api.OK || !bytes.Equal(got, b) {
			t.Errorf("%s: %d", name, e)
		}
	}
	if _, e := get(t, p.its.j.Read, ref(b, 62, 63, 64)); e != api.ErrSector {
		t.Errorf("behind the disk's last sector: %d", e)
	}
	p.open().wreck()
	if _, e := get(t, p.its.j.Read, r); e != api.ErrDown {
		t.Errorf("a disk that is down: %d", e)
	}
	if got, e := get(t, p.its.d.Stable, r); e != api.OK || !bytes.Equal(got, b) {
		t.Errorf("what is stable of it: %d", e)
	}
}

// P1202: Drop

func TestDropGivesAllBack(t *testing.T) {
	for _, n := range []int{0, 1, size, size + 1, 3 * size, greatest - 1, greatest} {
		p := opened(t, small)
		r := p.puts(data(n, 1))
		if e := p.drop(r); e != api.OK || p.its.x.Free() != small-area {
			t.Errorf("%d bytes in one transaction: %d, Free %d", n, e, p.its.x.Free())
		}
		r = p.puts(data(n, 2))
		p.again()
		if e := p.drop(r); e != api.OK || p.its.x.Free() != small-area {
			t.Errorf("%d bytes: %d, Free %d", n, e, p.its.x.Free())
		}
		if q := p.puts(data(n, 3)); !slices.Equal(q.Sectors, r.Sectors) {
			t.Errorf("put anew: %v, not %v", q.Sectors, r.Sectors)
		}
		p.again()
	}
}

func TestDropOfOneAmongOthers(t *testing.T) {
	p := opened(t, small)
	a, b, c := data(3*size, 1), data(4*size-1, 2), data(2*size, 3)
	x, y, z := p.puts(a), p.puts(b), p.puts(c)
	if e := p.drop(y); e != api.OK {
		t.Errorf("Drop: %d", e)
	}
	p.gets(x, a)
	p.gets(z, c)
	p.again()
	w := p.puts(data(5*size, 4))
	if !slices.Equal(w.Sectors, []int{54, 55, 56, 57, 60}) {
		t.Errorf("put anew: %v", w.Sectors)
	}
	p.gets(x, a)
	p.gets(z, c)
	if _, e := get(t, p.its.x.Read, y); e != api.ErrSum {
		t.Errorf("what was dropped: %d", e)
	}
}

func TestDropOfRefsThatAreNotRight(t *testing.T) {
	p := opened(t, roomy).takes(40).commit().open()
	q := opened(t, roomy).takes(40).commit()
	for name, r := range wrongRefs() {
		for _, x := range []*paper{p, q} {
			if e := x.drop(r); e != api.ErrArg {
				t.Errorf("%s: %d", name, e)
			}
		}
		if e := blob.Drop(nil, r); e != api.ErrNil {
			t.Errorf("%s, nil: %d", name, e)
		}
	}
	if p.its.x.Free() != roomy-area-40 || p.its.x.Left() != most {
		t.Errorf("Free %d, Left %d", p.its.x.Free(), p.its.x.Left())
	}
}

func TestDropOfNil(t *testing.T) {
	for _, n := range []int{0, 1, greatest} {
		if e := blob.Drop(nil, ref(data(n, 1), from(area, needSays(n))...)); e != api.ErrNil {
			t.Errorf("of %d: %d", n, e)
		}
	}
}

func TestDropTwice(t *testing.T) {
	p := opened(t, small)
	for _, commit := range []bool{false, true} {
		r := p.puts(data(3*size, 1))
		for k, want := range []api.Errno{api.OK, api.ErrSector, api.ErrSector} {
			if commit {
				p.again()
			}
			if e := p.drop(r); e != want || p.its.x.Free() != small-area {
				t.Errorf("the %d. time, %v: %d, Free %d", k, commit, e, p.its.x.Free())
			}
		}
	}
}

func TestDropOfWhatWasNotTaken(t *testing.T) {
	p := opened(t, small).takes(4)
	for _, l := range [][]int{{55}, {63}, {64}, {great - 1}, {64, 51}, {63, 52}, {55, 56, 57}} {
		if e := p.drop(ref(data(len(l)*size, 1), l...)); e != api.ErrSector || p.its.x.Free() != small-area-4 {
			t.Errorf("of %v: %d, Free %d", l, e, p.its.x.Free())
		}
	}
}

// Those ahead of the one that is refused are free then, those behind it stay taken.
func TestErrorInTheMiddleOfDrop(t *testing.T) {
	all := []int{57, 51, 56, 52, 55, 53, 54}
	for k, i := range all {
		for _, beyond := range []bool{false, true} {
			p := opened(t, small).takes(7).commit().open()
			l := slices.Clone(all)
			if beyond {
				l[k] = small + k
			} else {
				p.gives(i)
			}
			free := p.its.x.Free()
			e := p.drop(ref(data(7*size, 1), l...))
			if e != api.ErrSector || p.its.x.Free() != free+k {
				t.Fatalf("refused at %d: %d, Free %d, not %d", k, e, p.its.x.Free(), free+k)
			}
			for j, i := range l {
				want := api.OK
				if j <= k {
					want = api.ErrSector
				}
				if e := p.drop(ref(data(1, 1), i)); e != want {
					t.Fatalf("refused at %d: then sector %d: %d, not %d", k, i, e, want)
				}
			}
		}
	}
}

func TestDropAsksForNoBytes(t *testing.T) {
	p := opened(t, small)
	r := p.puts(data(2*size, 1))
	p.hand(r.Sectors[0], 2)
	r.Sum = sumOf(nil)
	r.Len = size + 1
	if e := p.drop(r); e != api.OK || p.its.x.Free() != small-area {
		t.Errorf("Drop: %d, Free %d", e, p.its.x.Free())
	}
}

func TestDropToWhatTakesNothingMore(t *testing.T) {
	r := ref(data(2*size, 1), 51, 52)
	for name, row := range map[string]struct {
		way  func(p *paper) *paper
		want api.Errno
	}{
		"committed":                {func(p *paper) *paper { return p.hand(root, 1).commit() }, api.ErrDown},
		"committed empty":          {(*paper).commit, api.ErrDown},
		"dead":                     {(*paper).wreck, api.ErrDown},
		"full":                     {func(p *paper) *paper { return p.hand(root, most) }, api.ErrFull},
		"one below full":           {func(p *paper) *paper { return p.hand(root, most-1) }, api.OK},
		"full with the map":        {func(p *paper) *paper { return p.gives(53).hand(root, most-1) }, api.OK},
		"full and then committed":  {func(p *paper) *paper { return p.hand(root, most).commit() }, api.ErrDown},
		"the first is not taken":   {func(p *paper) *paper { return p.gives(51).commit() }, api.ErrSector},
		"the second is not taken":  {func(p *paper) *paper { return p.gives(52).commit() }, api.ErrDown},
		"full, one is not taken":   {func(p *paper) *paper { return p.gives(51).commit().open().hand(root, most) }, api.ErrSector},
		"full, the other is not":   {func(p *paper) *paper { return p.gives(52).commit().open().hand(root, most) }, api.ErrFull},
		"down, unseen by the rest": {func(p *paper) *paper { return p.both(func(s *side) { s.d.Arm(0) }) }, api.OK},
	} {
		t.Run(name, func(t *testing.T) {
			p := row.way(opened(t, roomy).takes(4).commit().open())
			free := p.its.x.Free()
			if e := p.drop(ref(nil)); e != api.OK || p.its.x.Free() != free {
				t.Errorf("of no byte: %d", e)
			}
			if e := p.drop(blob.Ref{Len: 1}); e != api.ErrArg {
				t.Errorf("not right: %d", e)
			}
			if e := p.drop(r); e != row.want || e != api.OK && p.its.x.Free() != free {
				t.Errorf("Drop: %d, not %d; Free %d of %d", e, row.want, p.its.x.Free(), free)
			}
		})
	}
}

func TestDropGivesRoomForJustSoMany(t *testing.T) {
	for need := 1; need <= many; need++ {
		p := opened(t, small).chart(from(small-need, need)...)
		b := data(need*size, byte(need))
		r := p.puts(b)
		p.again()
		if _, e := p.put([]byte{1}); e != api.ErrFull {
			t.Errorf("%d: one more: %d", need, e)
		}
		if e := p.drop(r); e != api.OK {
			t.Errorf("%d: Drop: %d", need, e)
		}
		if _, e := p.put(data(need*size+1, 1)); need < many && e != api.ErrFull {
			t.Errorf("%d: one byte more: %d", need, e)
		}
		if q := p.puts(b); fmt.Sprint(q) != fmt.Sprint(r) {
			t.Errorf("%d: %v, not %v", need, q, r)
		}
	}
}
