package tree_test

import (
	"bytes"
	"fmt"
	"math"
	"math/rand"
	"slices"
	"testing"

	"stele/api"
	"stele/space"
	"stele/tree"
)

// P1304

// rightly: may a call answer so, of a tree that is none?
func rightly(e api.Errno) bool {
	return slices.Contains([]api.Errno{api.OK, api.ErrForm, api.ErrSector, api.ErrFull, api.ErrDown}, e)
}

// endure: each call of the root, in a transaction that is a new one each time, ends and tells an error that may be, with all else zero. The errors are counted.
func (p *paper) endure(root int, told map[api.Errno]int) {
	p.t.Helper()
	keys := []string{"\x00", "k00020", "k00020x", long("k", longest), "\xff\xff"}
	for name, do := range calls() {
		for _, k := range keys {
			for _, n := range []int{0, item - len(k)} {
				p.open()
				e, zero := do(p.x, root, []byte(k), make([]byte, n))
				if !rightly(e) || e != api.OK && !zero {
					p.t.Fatalf("%s(%q) of root %d: %d, %t", name, k, root, e, zero)
				}
				told[e]++
			}
			if name == "Pages" {
				break
			}
		}
	}
	for _, most := range []int{math.MinInt, 0, 1, 5} {
		if _, e := tree.Scan(p.x, root, nil, most); !rightly(e) {
			p.t.Fatalf("Scan of root %d, most %d: %d", root, most, e)
		}
	}
}

// lay: bytes in a sector that is there to stay.
func (p *paper) lay(i int, b []byte) {
	p.t.Helper()
	p.open()
	if e := p.x.Write(i, b); e != api.OK {
		p.t.Fatalf("Write: %d", e)
	}
	p.done()
}

// Roots that are no sectors, or none that a tree may have.
func TestRootsThatAreNone(t *testing.T) {
	p := mounted(t, small)
	p.put("k00020", "1")
	p.done()
	for _, root := range []int{math.MinInt, math.MinInt32, -1 << 32, -65536, -area, -1, 1, 2, most, chart, chart + 1, small, small + 1, great - 1, great, 65535, 65536, 65536 + area, math.MaxInt32, 1<<32 + area, math.MaxInt} {
		told := map[api.Errno]int{}
		p.endure(root, told)
		if told[api.OK] > 0 {
			t.Errorf("root %d: %v", root, told)
		}
	}
	p.open().look()
	p.wreck()
	for _, root := range []int{-1, 1, chart, area, small, math.MaxInt} {
		for name, do := range calls() {
			if e, zero := do(p.x, root, []byte("a"), nil); e == api.OK || !rightly(e) || !zero {
				t.Errorf("%s of root %d, the disk is down: %d, %t", name, root, e, zero)
			}
		}
	}
}

// Sectors of one byte over and over, taken and not taken.
func TestSectorsOfOneByte(t *testing.T) {
	for x := range 256 {
		p := mounted(t, small)
		i, _ := p.x.Take()
		p.done()
		for _, at := range []int{i, i + 1} {
			p.lay(at, bytes.Repeat([]byte{byte(x)}, size))
			p.endure(at, map[api.Errno]int{})
		}
	}
}

// Sectors of 0 and of 255 are no pages.
func TestZerosAndTheirOthers(t *testing.T) {
	for _, x := range []byte{0, 255} {
		p := mounted(t, small)
		i, _ := p.x.Take()
		p.done()
		p.lay(i, bytes.Repeat([]byte{x}, size))
		told := map[api.Errno]int{}
		if p.endure(i, told); told[api.OK] > 0 {
			t.Errorf("a sector of %d: %v", x, told)
		}
	}
}

// Bytes of chance, and such behind a page's first bytes.
func TestSectorsOfAnyBytes(t *testing.T) {
	r := rand.New(rand.NewSource(1304))
	p := mounted(t, small)
	for i, k := range names(20) {
		p.put(k, filled(i, 60))
	}
	p.done()
	page, _ := p.x.Read(p.root)
	for range 400 {
		b := make([]byte, size)
		r.Read(b)
		if r.Intn(3) > 0 {
			copy(b, page[:r.Intn(20)])
		}
		if r.Intn(3) == 0 {
			clear(b[r.Intn(size):])
		}
		p.lay(p.root, b)
		p.endure(p.root, map[api.Errno]int{})
	}
}

// built: a tree of pages above pages, and what its sectors have.
func built(t *testing.T, n, value int) (*paper, map[int][]byte) {
	p := mounted(t, great)
	for i, k := range names(n) {
		p.put(k, filled(i, value))
		p.done()
	}
	whole := map[int][]byte{}
	for i := area; i < area+p.pages(); i++ {
		b, e := p.x.Read(i)
		if e != api.OK {
			t.Fatalf("Read: %d", e)
		}
		whole[i] = b
	}
	return p, whole
}

// Each byte of a tree's sectors is turned.
func TestEachByteTurned(t *testing.T) {
	t.Parallel()
	told := map[api.Errno]int{}
	r := rand.New(rand.NewSource(13))
	p, whole := built(t, 30, 60)
	for i := area; i < area+len(whole); i++ {
		for at := range size {
			b := bytes.Clone(whole[i])
			b[at] ^= byte(1 + r.Intn(255))
			p.lay(i, b)
			p.endure(p.root, told)
			p.lay(i, whole[i])
		}
	}
	p.open().look()
	if told[api.ErrForm] < 1000 || told[api.OK] < 1000 {
		t.Errorf("%v", told)
	}
}

// Bytes at a page's beginning have each value.
func TestFirstBytesOfEachValue(t *testing.T) {
	t.Parallel()
	told := map[api.Errno]int{}
	p, whole := built(t, 30, 60)
	for _, i := range []int{area, p.root} {
		for at := range 12 {
			for x := range 256 {
				b := bytes.Clone(whole[i])
				b[at] = byte(x)
				p.lay(i, b)
				p.endure(p.root, told)
			}
		}
		p.lay(i, whole[i])
	}
	p.open().look()
	if told[api.ErrForm] < 1000 {
		t.Errorf("%v", told)
	}
}

// Pages stand in the places of others: each names itself, or one above it, or one that another names too.
func TestPagesInEachOthersPlaces(t *testing.T) {
	told := map[api.Errno]int{}
	p, whole := built(t, 30, 60)
	if len(whole) < 5 {
		t.Fatalf("%d pages", len(whole))
	}
	for i := area; i < area+len(whole); i++ {
		for k := area; k < area+len(whole); k++ {
			p.lay(i, whole[k])
			p.endure(p.root, told)
			p.endure(i, told)
		}
		p.lay(i, whole[i])
	}
	p.open().look()
	if told[api.ErrForm] < 100 {
		t.Errorf("%v", told)
	}
}

// Each sector's number within the tree's sectors is another's: wherever a page names one, it names another then.
func TestPagesThatNameOthers(t *testing.T) {
	told := map[api.Errno]int{}
	p, whole := built(t, 30, 60)
	for i := area; i < area+len(whole); i++ {
		for at := range size {
			if b := whole[i][at]; int(b) < area || int(b) >= area+len(whole) {
				continue
			}
			for _, x := range []int{0, 1, chart, chart + 1, area, p.root, i, area + len(whole), 255} {
				b := bytes.Clone(whole[i])
				b[at] = byte(x)
				p.lay(i, b)
				p.endure(p.root, told)
			}
		}
		p.lay(i, whole[i])
	}
	p.open().look()
	if told[api.ErrForm] < 100 {
		t.Errorf("%v", told)
	}
}

// What is done to a tree that is none, and committed, is no worse: calls go on to end, behind one another.
func TestGoOnWithWrongTrees(t *testing.T) {
	r := rand.New(rand.NewSource(131))
	_, whole := built(t, 60, 60)
	for range 150 {
		p := mounted(t, small+40)
		for range len(whole) {
			p.x.Take()
		}
		for i, b := range whole {
			p.x.Write(i, b)
		}
		for range 1 + r.Intn(4) {
			i := area + r.Intn(len(whole))
			b := bytes.Clone(whole[area+r.Intn(len(whole))])
			b[r.Intn(size)] = byte(area + r.Intn(len(whole)))
			p.x.Write(i, b)
		}
		p.done()
		root := area + r.Intn(len(whole))
		for range 60 {
			k := []byte(fmt.Sprintf("k%05d", r.Intn(70)))
			var e api.Errno
			now := root
			if r.Intn(2) == 0 {
				now, e = tree.Put(p.x, root, k, make([]byte, r.Intn(200)))
			} else {
				now, _, e = tree.Delete(p.x, root, k)
			}
			if !rightly(e) {
				t.Fatalf("%d", e)
			}
			if e != api.OK {
				p.open()
				continue
			}
			root = now
			p.done()
			if _, e := tree.Scan(p.x, root, nil, math.MaxInt); !rightly(e) {
				t.Fatalf("Scan: %d", e)
			}
			if _, e := tree.Pages(p.x, root); !rightly(e) {
				t.Fatalf("Pages: %d", e)
			}
		}
	}
}

// A journal that died reads yet, and takes nothing.
func TestDeadJournal(t *testing.T) {
	p, whole := built(t, 30, 60)
	x, _ := space.Open(p.j)
	p.lay(area, bytes.Repeat([]byte{7}, size))
	p.wreck()
	p.j.Read(area)
	p.d.Crash(nil)
	for name, do := range calls() {
		if e, zero := do(x, p.root, []byte("k00020"), nil); !rightly(e) || e != api.OK && !zero {
			t.Errorf("%s: %d, %t", name, e, zero)
		}
	}
	if _, e := tree.Put(x, 0, []byte("a"), nil); e != api.ErrDown {
		t.Errorf("Put: %d", e)
	}
	p.mount().lay(area, whole[area])
	p.look()
}
