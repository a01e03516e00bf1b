package blob_test

import (
	"fmt"
	"math"
	"math/big"
	"slices"
	"testing"

	"stele/api"
	"stele/blob"
	"stele/space"
)

func TestSizes(t *testing.T) {
	if blob.MaxLen != greatest || blob.Need(blob.MaxLen) != many {
		t.Errorf("MaxLen %d, which needs %d", blob.MaxLen, blob.Need(blob.MaxLen))
	}
	if api.Sector != size || api.MaxTx != most || api.MinDisk != small || api.MaxDisk != great || space.Map != chart || space.Area != area {
		t.Error("the sizes of this test are not those of the program")
	}
}

// P1201: Need

func TestExample(t *testing.T) {
	if got := blob.Need(513); got != 2 {
		t.Errorf("Need(513): %d", got)
	}
}

func TestNeed(t *testing.T) {
	for n := -3 * size; n < 4*greatest; n++ {
		if got := blob.Need(n); got != needSays(n) {
			t.Fatalf("Need(%d): %d, not %d", n, got, needSays(n))
		}
	}
	for n, want := range map[int]int{-1: 0, 0: 0, 1: 1, 2: 1, 511: 1, 512: 1, 513: 2, 1023: 2, 1024: 2, 1025: 3, 1536: 3, 1537: 4, 6143: 12, 6144: 12, 6145: 13} {
		if got := blob.Need(n); got != want {
			t.Errorf("Need(%d): %d, not %d", n, got, want)
		}
	}
}

func TestNeedOfAnyNumber(t *testing.T) {
	for _, n := range []int{math.MinInt, math.MinInt + 1, math.MinInt + size, math.MinInt32 - 1, math.MinInt32, -size - 1, -size, -size + 1} {
		if got := blob.Need(n); got != 0 {
			t.Errorf("Need(%d): %d", n, got)
		}
	}
	for _, at := range []int{1 << 16, 1 << 31, 1 << 32, 1 << 62, math.MaxInt - 2*size, math.MaxInt - size, math.MaxInt - 2} {
		for n := at - 2; n <= at+2 && n > 0; n++ {
			x, m := new(big.Int).DivMod(big.NewInt(int64(n)), big.NewInt(size), new(big.Int))
			if m.Sign() > 0 {
				x.Add(x, big.NewInt(1))
			}
			if got := blob.Need(n); big.NewInt(int64(got)).Cmp(x) != 0 {
				t.Errorf("Need(%d): %d, not %d", n, got, x)
			}
			if n == math.MaxInt {
				break
			}
		}
	}
	if got := blob.Need(math.MaxInt); got != 1<<54 {
		t.Errorf("Need(MaxInt): %d", got)
	}
}

// P1201: Put

// lengths: each below a few sectors, and those about each sector's end.
func lengths() []int {
	l := from(0, size+3)
	for n := 2 * size; n <= greatest; n += size {
		l = append(l, n-size+2, n-size/2, n-2, n-1, n, n+1)
	}
	return slices.DeleteFunc(l, func(n int) bool { return n > greatest })
}

func TestPutOfEachLength(t *testing.T) {
	for _, n := range lengths() {
		p := opened(t, small)
		b := data(n, byte(n))
		r := p.puts(b)
		if r.Len != n || !slices.Equal(r.Sectors, from(area, needSays(n))) || !slices.Equal(r.Sum, sumOf(b)) {
			t.Fatalf("Put of %d: %v", n, r)
		}
		gone := len(r.Sectors)
		if p.its.x.Free() != small-area-gone || n > 0 && p.its.x.Left() != most-1-gone || n == 0 && p.its.x.Left() != most {
			t.Fatalf("Put of %d: Free %d, Left %d", n, p.its.x.Free(), p.its.x.Left())
		}
	}
}

func TestPutOfNoByte(t *testing.T) {
	for name, b := range map[string][]byte{"nil": nil, "empty": {}, "cut": data(9, 1)[:0]} {
		p := opened(t, small)
		r := p.puts(b)
		if r.Len != 0 || len(r.Sectors) != 0 || fmt.Sprintf("%x", r.Sum) != "e3b0c44298fc1c149afbf4c8996fb92427ae41e4649b934ca495991b7852b855" {
			t.Errorf("%s: %v", name, r)
		}
		p.commit()
		if p.its.j.Seq() != 0 {
			t.Errorf("%s: something was written", name)
		}
	}
}

// The sectors had other bytes: behind the last of these they are 0.
func TestLastSectorIsFilledByNoughts(t *testing.T) {
	for _, n := range []int{1, 2, 255, size - 1, size, size + 1, 2*size - 1, 2 * size, 2*size + 1} {
		p := opened(t, small).hand(area, small-area).commit().open()
		for range 2 {
			r := p.puts(data(n, 7))
			var all []byte
			for _, i := range r.Sectors {
				b, e := p.its.x.Read(i)
				if e != api.OK || len(b) != size {
					t.Fatalf("sector %d: %d", i, e)
				}
				all = append(all, b...)
			}
			if string(all[:n]) != string(data(n, 7)) || string(all[n:]) != string(make([]byte, len(all)-n)) {
				t.Errorf("of %d bytes: %x", n, all)
			}
			p.again()
		}
	}
}

func TestPutIsInOrderOfWhatIsFree(t *testing.T) {
	p := opened(t, roomy).chart(53, 55, 58, 60, 61, 90, roomy-1)
	r := p.puts(data(5*size, 1))
	if !slices.Equal(r.Sectors, []int{53, 55, 58, 60, 61}) {
		t.Errorf("sectors %v", r.Sectors)
	}
	q := p.puts(data(size+1, 2))
	if !slices.Equal(q.Sectors, []int{90, roomy - 1}) {
		t.Errorf("sectors %v", q.Sectors)
	}
	p.put([]byte{1})
	p.gets(r, data(5*size, 1))
}

func TestPutAtTheFirstAndTheLastSector(t *testing.T) {
	p := opened(t, great).chart(area, great-1)
	r := p.puts(data(2*size, 1))
	if !slices.Equal(r.Sectors, []int{area, great - 1}) {
		t.Errorf("sectors %v", r.Sectors)
	}
	if _, e := p.put([]byte{1}); e != api.ErrFull {
		t.Errorf("one more: %d", e)
	}
	p.again().gets(r, data(2*size, 1))
	if e := p.drop(r); e != api.OK {
		t.Errorf("Drop: %d", e)
	}
	if p.its.x.Free() != 2 {
		t.Errorf("Free %d", p.its.x.Free())
	}
}

func TestPutOfTheGreatestAndOneMore(t *testing.T) {
	p := opened(t, small)
	for _, n := range []int{greatest + 1, greatest + 2, greatest + size, 2 * greatest, 1 << 20} {
		if r, e := p.put(data(n, 1)); e != api.ErrBig || !none(r) {
			t.Errorf("Put of %d: %v, %d", n, r, e)
		}
	}
	if p.its.x.Left() != most || p.its.x.Free() != small-area {
		t.Error("something was taken")
	}
	if r := p.puts(data(greatest, 1)); len(r.Sectors) != many {
		t.Errorf("sectors %v", r.Sectors)
	}
}

func TestPutAsManyAsAreFree(t *testing.T) {
	for free := range many + 2 {
		for need := range many + 1 {
			for _, n := range []int{need * size, max((need-1)*size+1, 0)} {
				p := opened(t, roomy).chart(from(roomy-free, free)...)
				r, e := p.put(data(n, 1))
				if (e == api.OK) != (need <= free) || e != api.OK && e != api.ErrFull {
					t.Fatalf("%d are free, %d bytes: %d", free, n, e)
				}
				if e == api.OK && !slices.Equal(r.Sectors, from(roomy-free, need)) {
					t.Fatalf("%d are free, %d bytes: %v", free, n, r.Sectors)
				}
				if e != api.OK && (p.its.x.Free() != free || p.its.x.Left() != most) {
					t.Fatalf("refused: Free %d of %d, Left %d", p.its.x.Free(), free, p.its.x.Left())
				}
			}
		}
	}
}

// The map is asked room for, whether the transaction has it already or not.
func TestPutAsManyAsAreLeft(t *testing.T) {
	ways := map[string]func(p *paper) *paper{
		"the map not in it": func(p *paper) *paper { return p },
		"taken from":        func(p *paper) *paper { return p.takes(1) },
		"given to":          func(p *paper) *paper { return p.gives(53) },
	}
	for name, way := range ways {
		for left := range many + 4 {
			for need := range many + 1 {
				for _, n := range []int{need * size, max((need-1)*size+1, 0)} {
					p := way(opened(t, roomy).takes(4).commit().open())
					p.hand(roomy-most, p.its.x.Left()-left)
					_, e := p.put(data(n, 1))
					if (e == api.OK) != (need == 0 || need+1 <= left) || e != api.OK && e != api.ErrFull {
						t.Fatalf("%s, %d left, %d bytes: %d", name, left, n, e)
					}
					if e != api.OK && p.its.x.Left() != left {
						t.Fatalf("%s, refused: Left %d of %d", name, p.its.x.Left(), left)
					}
				}
			}
		}
	}
}

// The sectors that would be taken are the transaction's already, so that it would not grow: they are counted all the same.
func TestLeftIsCountedAsItIs(t *testing.T) {
	p := opened(t, roomy).takes(3).hand(area+3, most-4)
	p.gives(51, 52, 53)
	if p.its.x.Left() != 0 {
		t.Fatalf("Left %d", p.its.x.Left())
	}
	for _, n := range []int{1, size, size + 1, greatest} {
		if r, e := p.put(data(n, 1)); e != api.ErrFull || !none(r) {
			t.Errorf("Put of %d: %v, %d", n, r, e)
		}
	}
	if _, e := p.put(nil); e != api.OK {
		t.Errorf("no byte: %d", e)
	}
}

func TestPutsTillNothingIsLeft(t *testing.T) {
	p := opened(t, roomy)
	var l []blob.Ref
	for range 4 {
		r, e := p.put(data(greatest, byte(len(l))))
		if e == api.OK {
			l = append(l, r)
		} else if e != api.ErrFull || len(l) != 3 {
			t.Errorf("the %d. one: %d", len(l), e)
		}
	}
	// 48 less the map and three times 12 are 11; one less for the map are 10.
	if _, e := p.put(data(10*size+1, 1)); e != api.ErrFull {
		t.Errorf("eleven: %d", e)
	}
	p.puts(data(10*size, 9))
	if _, e := p.put(data(1, 1)); e != api.ErrFull || p.its.x.Left() != 1 {
		t.Errorf("one more: %d, Left %d", e, p.its.x.Left())
	}
	p.again()
	for k, r := range l {
		p.gets(r, data(greatest, byte(k)))
	}
}

func TestNoByteWithNothingFreeOrLeft(t *testing.T) {
	p := opened(t, small).chart()
	p.puts(nil)
	p.open().hand(root, small-root)
	p.puts(nil)
	q := opened(t, roomy).hand(root, most)
	if q.its.x.Left() != 0 {
		t.Fatalf("Left %d", q.its.x.Left())
	}
	q.puts(nil)
	w := opened(t, roomy).chart().hand(root, most)
	w.puts([]byte{})
	if _, e := w.put([]byte{1}); e != api.ErrFull {
		t.Errorf("one byte: %d", e)
	}
}

func TestPutToNil(t *testing.T) {
	for _, n := range []int{0, 1, size, greatest, greatest + 1} {
		if r, e := blob.Put(nil, data(n, 1)); e != api.ErrNil || !none(r) {
			t.Errorf("Put of %d: %v, %d", n, r, e)
		}
	}
	if r, e := blob.Put(nil, nil); e != api.ErrNil || !none(r) {
		t.Errorf("Put of nil: %v, %d", r, e)
	}
}

// The transaction takes nothing more: told behind ErrBig and ErrFull, and only if a sector is asked for.
func TestPutToWhatTakesNothingMore(t *testing.T) {
	ways := map[string]func(p *paper) *paper{
		"committed":       func(p *paper) *paper { return p.hand(root, 1).commit() },
		"committed empty": (*paper).commit,
		"down":            (*paper).wreck,
		"down and up":     func(p *paper) *paper { return p.wreck().both(func(s *side) { s.d.Crash(nil) }) },
	}
	for name, way := range ways {
		for free := range 4 {
			p := way(opened(t, small).chart(from(area, free)...))
			for need := range many + 1 {
				want := api.OK
				if need > free {
					want = api.ErrFull
				} else if need > 0 {
					want = api.ErrDown
				}
				if _, e := p.put(data(need*size, 1)); e != want {
					t.Errorf("%s, %d are free, %d asked for: %d, not %d", name, free, need, e, want)
				}
			}
			if _, e := p.put(data(greatest+1, 1)); e != api.ErrBig {
				t.Errorf("%s: %d", name, e)
			}
		}
	}
}

// A disk that is down, unseen by the journal: what was put is lost only by the commit.
func TestPutWritesNothingItself(t *testing.T) {
	p := opened(t, small).both(func(s *side) {
		s.d.Arm(0)
		s.d.Write(root, make([]byte, size))
	})
	if r, e := p.put(data(size+1, 1)); e != api.OK || len(r.Sectors) != 2 {
		t.Errorf("Put: %v, %d", r, e)
	}
	if e := p.its.x.Commit(); e != api.ErrDown {
		t.Errorf("Commit: %d", e)
	}
}

func TestWhichErrorOfPutGoesAhead(t *testing.T) {
	for name, p := range map[string]*paper{
		"nothing free": opened(t, small).chart(),
		"nothing left": opened(t, roomy).hand(root, most),
		"committed":    opened(t, small).commit(),
		"dead":         opened(t, small).wreck(),
	} {
		if _, e := p.put(data(greatest+1, 1)); e != api.ErrBig {
			t.Errorf("%s: %d", name, e)
		}
	}
	p := opened(t, small).chart().commit()
	if _, e := p.put([]byte{1}); e != api.ErrFull {
		t.Errorf("nothing free, committed: %d", e)
	}
	q := opened(t, roomy).hand(root, most).commit()
	if _, e := q.put([]byte{1}); e != api.ErrFull {
		t.Errorf("nothing left, committed: %d", e)
	}
}

func TestRefsShareNothing(t *testing.T) {
	p := opened(t, small)
	b := data(2*size, 1)
	r, _ := blob.Put(p.its.x, b)
	q, _ := blob.Put(p.its.x, b)
	spoilRef(r)
	if !sameRef(q, ref(b, 53, 54)) {
		t.Errorf("the second: %v", q)
	}
	spoil(b)
	w, _ := blob.Put(p.its.x, nil)
	spoilRef(w)
	w, _ = blob.Put(p.its.x, nil)
	if !sameRef(w, ref(nil)) {
		t.Errorf("of no byte: %v", w)
	}
	if got, e := blob.Get(p.its.x.Read, q); e != api.OK || string(got) != string(data(2*size, 1)) {
		t.Errorf("Get: %d", e)
	}
}
