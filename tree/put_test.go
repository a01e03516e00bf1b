package tree_test

import (
	"fmt"
	"slices"
	"testing"

	"stele/api"
	"stele/space"
	"stele/tree"
)

// P1301

func TestExample(t *testing.T) {
	p := mounted(t, small)
	for _, k := range []string{"b", "a", "c"} {
		p.put(k, "of "+k)
	}
	l, e := tree.Scan(p.x, p.root, []byte("b"), 10)
	if e != api.OK || len(l) != 2 || string(l[0].Key) != "b" || string(l[1].Key) != "c" {
		t.Errorf("Scan from b: %q, %d", l, e)
	}
	p.look()
	p.again().look()
}

func TestEmpty(t *testing.T) {
	p := mounted(t, small)
	p.look()
	if p.del("a") {
		t.Error("a key was there")
	}
	p.put("a", "1")
	if n := p.pages(); n != 1 {
		t.Errorf("%d pages of one entry", n)
	}
	if p.del("b") || !p.del("a") || p.root != 0 {
		t.Errorf("the root is %d", p.root)
	}
	p.look()
	p.again().look()
}

// Many entries, each in a transaction of its own; all deleted likewise, in each order.
func TestManyInEachOrder(t *testing.T) {
	t.Parallel()
	for name, order := range orders() {
		for gone, other := range orders() {
			p := mounted(t, roomy)
			l := names(100)
			for i, k := range order(l) {
				p.put(k, filled(i, 60+i%80))
				p.done().brief()
				if i%32 == 0 {
					p.again().look()
				}
			}
			p.look()
			for i, k := range other(l) {
				if p.del(k + "?") {
					t.Fatalf("%s, %s: %s? was there", name, gone, k)
				}
				if !p.del(k) || p.del(k) {
					t.Fatalf("%s, %s: %s was there twice, or not at all", name, gone, k)
				}
				p.done().brief()
				if i%32 == 0 {
					p.again().look()
				}
			}
			if p.root != 0 || p.x.Free() != roomy-area {
				t.Errorf("%s, %s: the root is %d, %d are free", name, gone, p.root, p.x.Free())
			}
		}
	}
}

// A disk's worth of great entries: pages stand above pages above pages.
func TestVeryMany(t *testing.T) {
	t.Parallel()
	many := 2000
	if testing.Short() {
		many = 1000
	}
	for name, order := range orders() {
		for gone, other := range orders() {
			p := mounted(t, great)
			l := names(many)
			top := 0
			step := func(i int, do func()) {
				left := p.x.Left()
				do()
				top = max(top, left-p.x.Left())
				p.done()
				if i%500 == 0 {
					p.brief()
				}
			}
			for i, k := range order(l) {
				step(i, func() { p.put(k, filled(i, item-len(k)-i%5)) })
			}
			p.brief()
			p.again()
			for i, k := range other(l) {
				step(i, func() { p.del(k) })
				// Little enough is left that pages above pages get few.
				if len(p.has)%97 == 0 || len(p.has) < 8 {
					p.brief()
				}
			}
			if p.root != 0 || p.x.Free() != great-area {
				t.Errorf("%s, %s: the root is %d, %d are free", name, gone, p.root, p.x.Free())
			}
			// A store does several of them in one transaction.
			if top > 6 {
				t.Errorf("%s, %s: one call wrote %d sectors", name, gone, top)
			}
		}
	}
}

// Several in one transaction, some of which are not committed.
func TestNotCommitted(t *testing.T) {
	p := mounted(t, roomy)
	for i, k := range names(50) {
		p.put(k, filled(i, 100))
		if i%5 == 4 {
			p.done()
		}
	}
	p.look()
	y, _ := space.Open(p.j)
	root := p.root
	for _, k := range names(50)[:20] {
		r, _, e := tree.Delete(y, root, []byte(k))
		r, e2 := tree.Put(y, r, []byte(k+"+"), []byte(filled(1, 30)))
		if e != api.OK || e2 != api.OK {
			t.Fatalf("%d, %d", e, e2)
		}
		root = r
	}
	p.look()
	p.again().look()
}

func TestPutTwice(t *testing.T) {
	sizes := []int{0, 1, 17, 100, 200, item - 6}
	for _, n := range []int{1, 3, 40} {
		p := mounted(t, roomy)
		for i, k := range names(n) {
			p.put(k, filled(i, 50))
		}
		for i, k := range mixed(names(n)) {
			for _, a := range sizes {
				for _, b := range sizes {
					p.put(k, filled(i+a, a))
					p.pages()
					p.put(k, filled(i+b+1, b))
					p.put(k, filled(i+b+1, b))
					p.pages()
				}
				p.done().brief()
			}
		}
		p.look()
		// All of them grown, and grown small again.
		for _, a := range []int{item - 6, 0, 120, 1} {
			for i, k := range names(n) {
				p.put(k, filled(i, a))
				p.done()
			}
			p.look()
		}
		for _, k := range mixed(names(n)) {
			p.del(k)
			p.done().brief()
		}
	}
}

// Each byte as a key, and ahead of a key, in the middle and behind it.
func TestKeysOfEachByte(t *testing.T) {
	t.Parallel()
	p := mounted(t, great)
	for x := range 256 {
		b := string([]byte{byte(x)})
		for _, k := range []string{b, b + b, "m" + b, "m" + b + "m", b + long("", longest-2) + b, "z\x00" + b, "z\xff" + b} {
			p.put(k, filled(x, x%100))
		}
		p.done()
	}
	p.look()
	for x := range 256 {
		b := string([]byte{byte(x * 89)})
		p.del("z\x00" + b)
		p.del("z\xff" + b)
		p.del(b)
		if p.del(b) {
			t.Fatalf("%q was there twice", b)
		}
		p.done()
	}
	p.look()
}

// Keys of which one begins the other, up to the longest, put in each order.
func TestKeysThatBeginOthers(t *testing.T) {
	for _, sign := range []string{"\x00", "a", "\xff"} {
		for _, order := range orders() {
			var l []string
			for n := 1; n <= longest; n++ {
				b := ""
				for range n {
					b += sign
				}
				l = append(l, b)
			}
			p := mounted(t, roomy)
			for i, k := range order(l) {
				p.put(k, filled(i, (i*37)%(item-longest+1)))
				p.done()
			}
			p.look()
			for _, k := range mixed(order(l)) {
				p.del(k)
				p.done().brief()
			}
		}
	}
}

// Items just of the limits, in each order of a few.
func TestItemsOfTheLimits(t *testing.T) {
	p := mounted(t, roomy)
	for i := range 30 {
		p.put(long(fmt.Sprintf("a%02d", i), longest), filled(i, item-longest))
		p.put(fmt.Sprintf("%c", 'b'+i), filled(i, item-1))
		p.put(long(fmt.Sprintf("c%02d", i), longest), "")
		p.put(fmt.Sprintf("%c", 0x80+i), "")
		p.done().brief()
	}
	p.look()
	p.again().look()
}

// What does not fit into one page any more fits into two, whatever sizes lie beside one another.
func TestHalvesOfEachSizes(t *testing.T) {
	t.Parallel()
	sizes := []int{1, 2, 61, 120, 121, 168, 239, item}
	if testing.Short() {
		sizes = []int{1, 61, 168, item}
	}
	count := 0
	var try func(l []int)
	try = func(l []int) {
		if len(l) == 4 {
			for _, order := range [][]int{{0, 1, 2, 3}, {3, 2, 1, 0}, {1, 3, 0, 2}, {0, 3, 2, 1}} {
				p := mounted(t, small)
				for _, i := range order {
					// A short key of few bytes, a long one of many.
					k := string([]byte{byte('a' + i)})
					if l[i] > 150 {
						k = long(k, longest)
					}
					p.put(k, filled(i, l[i]-len(k)))
				}
				p.brief()
				for _, i := range order {
					p.del(long(string([]byte{byte('a' + i)}), 1+(longest-1)*min(1, l[i]/151)))
					p.brief()
				}
				count++
			}
			return
		}
		for _, n := range sizes {
			try(append(slices.Clone(l), n))
		}
	}
	try(nil)
	if count != 4*len(sizes)*len(sizes)*len(sizes)*len(sizes) {
		t.Errorf("%d tries", count)
	}
}

// Long and short entries beside one another, many of them.
func TestLongAndShort(t *testing.T) {
	t.Parallel()
	for _, every := range []int{1, 2, 5, 40} {
		for name, order := range orders() {
			p := mounted(t, great)
			var l []string
			for i := range 200 {
				k := fmt.Sprintf("%03d", i)
				if i%every == 0 {
					k = long(k, longest)
				}
				l = append(l, k)
			}
			for i, k := range order(l) {
				n := 0
				if len(k) == longest {
					n = item - longest
				}
				p.put(k, filled(i, n))
				p.done()
				if i%20 == 0 {
					p.brief()
				}
			}
			p.look()
			for i, k := range order(l) {
				if i%2 == 0 && !p.del(k) {
					t.Fatalf("%s: %q was not there", name, k)
				}
				p.done()
			}
			p.look()
		}
	}
}

// Pages empty at the left, in the middle, at the right; what is left is told still, and can grow again.
func TestPagesThatEmpty(t *testing.T) {
	t.Parallel()
	l := names(90)
	for name, part := range map[string][]string{"left": l[:30], "middle": l[30:60], "right": l[60:], "all but one": l[1:], "all but the last": l[:89]} {
		for way, order := range orders() {
			p := mounted(t, roomy)
			for i, k := range l {
				p.put(k, filled(i, 200))
				p.done()
			}
			whole := p.pages()
			for range 2 {
				for _, k := range order(part) {
					p.del(k)
					p.done().brief()
				}
				p.look()
				// At most two of these entries fit into a page.
				if n := p.pages(); n > whole-len(part)/2+3 {
					t.Errorf("%s, %s: %d pages, %d are left", name, way, whole, n)
				}
				for i, k := range order(part) {
					p.put(k, filled(i, 190))
					p.done().brief()
				}
			}
			p.look()
		}
	}
}

// An entry here and there is left: they come together in few pages.
func TestPagesThatGetSlim(t *testing.T) {
	t.Parallel()
	for way, order := range orders() {
		p := mounted(t, great)
		l := names(1200)
		for i, k := range l {
			p.put(k, filled(i, 40))
			p.done()
		}
		for i, k := range order(l) {
			if k[len(k)-1] != '0' {
				p.del(k)
				p.done()
			}
			if i%100 == 0 {
				p.brief()
			}
		}
		p.look()
		if n := p.pages(); n > 40 {
			t.Errorf("%s: %d pages of %d entries of 48 bytes", way, n, len(p.has))
		}
	}
}

// fills: entries till the disk has no sector free.
func fills(p *paper, value int) (last string) {
	for i := 0; ; i++ {
		k := fmt.Sprintf("k%05d", i*7919%100000)
		root, e := tree.Put(p.x, p.root, []byte(k), []byte(filled(i, value)))
		if e == api.ErrFull {
			if root != 0 {
				p.t.Fatalf("ErrFull, and the root %d", root)
			}
			// It is not to be committed.
			p.open()
			return k
		}
		if e != api.OK {
			p.t.Fatalf("Put %d: %d", i, e)
		}
		p.root = root
		p.set(k, filled(i, value))
		p.done()
	}
}

func TestNoSectorFree(t *testing.T) {
	t.Parallel()
	for _, value := range []int{0, 40, 100, 230} {
		p := mounted(t, small)
		k := fills(p, value)
		if p.x.Free() > 1 {
			t.Errorf("values of %d: %d are free yet", value, p.x.Free())
		}
		p.again().look()
		for {
			i, e := p.x.Take()
			if e != api.OK {
				break
			}
			t.Logf("values of %d: %d was free", value, i)
		}
		if root, e := tree.Put(p.x, p.root, []byte(k), []byte(filled(1, value))); e != api.ErrFull || root != 0 {
			t.Errorf("values of %d: Put of one more: %d, %d", value, root, e)
		}
		p.open()
		if root, e := tree.Put(p.x, p.root, []byte(k), []byte(filled(1, value))); e != api.ErrFull || root != 0 {
			t.Errorf("values of %d: Put of one more: %d, %d", value, root, e)
		}
		p.open().look()
		// What is there can be put anew, and deleted; then there is room.
		l := p.sorted()
		for i, k := range l {
			p.put(k, filled(i, value))
			p.done()
		}
		p.brief()
		for i, k := range l {
			p.del(k)
			p.done()
			if i%8 == 0 || i > len(l)-20 {
				p.brief()
			}
		}
		p.put(k, filled(1, value))
		p.done().look()
	}
}

func TestNoSectorFreeForTheFirst(t *testing.T) {
	p := mounted(t, small)
	p.full()
	if root, e := tree.Put(p.x, 0, []byte("a"), nil); e != api.ErrFull || root != 0 {
		t.Errorf("Put: %d, %d", root, e)
	}
	p.full(60)
	if root, e := tree.Put(p.x, 0, []byte("a"), nil); e != api.OK || root != 60 {
		t.Errorf("Put with 60 free: %d, %d", root, e)
	}
	if _, e := tree.Put(p.x, 0, []byte("a"), nil); e != api.ErrFull {
		t.Errorf("Put behind it: %d", e)
	}
}

// room: a transaction that has room for so many sectors yet.
func (p *paper) room(n int) {
	p.t.Helper()
	p.open()
	for i := p.sectors - 1; p.x.Left() > n; i-- {
		if e := p.x.Write(i, make([]byte, size)); e != api.OK {
			p.t.Fatalf("Write: %d", e)
		}
	}
}

func TestTransactionHasTooMany(t *testing.T) {
	p := mounted(t, great)
	p.room(0)
	if root, e := tree.Put(p.x, 0, []byte("a"), nil); e != api.ErrFull || root != 0 {
		t.Errorf("Put to none: %d, %d", root, e)
	}
	p.room(1)
	if root, e := tree.Put(p.x, 0, []byte("a"), nil); e != api.ErrFull || root != 0 {
		t.Errorf("Put to none, without room for the map: %d, %d", root, e)
	}
	p.open()
	l := names(700)
	for i, k := range l {
		p.put(k, filled(i, 230))
		p.done()
	}
	done, refused := map[api.Errno]int{}, map[api.Errno]int{}
	for i, k := range mixed(l)[:100] {
		for n := range 7 {
			p.room(n)
			root, e := tree.Put(p.x, p.root, []byte(k+"+"), []byte(filled(i, 200)))
			if e != api.OK && (e != api.ErrFull || root != 0) || e == api.OK && (n == 0 || root == 0) || e != api.OK && n == 6 {
				t.Fatalf("Put with room for %d: %d, %d", n, root, e)
			}
			done[e]++
			p.room(n)
			root, had, e := tree.Delete(p.x, p.root, []byte(k))
			if e != api.OK && (e != api.ErrFull || had || root != 0) || e == api.OK && (n == 0 || !had || root == 0) || e != api.OK && n == 6 {
				t.Fatalf("Delete with room for %d: %d, %t, %d", n, root, had, e)
			}
			refused[e]++
		}
		// To be asked, a transaction needs no room.
		p.room(0)
		p.gets(k)
		p.scans(k, 3)
		if p.del(k + "-") {
			t.Fatalf("%s- was there", k)
		}
	}
	p.open().brief()
	if done[api.OK] < 100 || done[api.ErrFull] < 100 || refused[api.OK] < 100 || refused[api.ErrFull] < 100 {
		t.Errorf("Put: %v; Delete: %v", done, refused)
	}
}

// Many in one transaction, till it has too many.
func TestManyInOneTransaction(t *testing.T) {
	p := mounted(t, great)
	for i := 0; ; i++ {
		k := fmt.Sprintf("k%04d", i)
		root, e := tree.Put(p.x, p.root, []byte(k), []byte(filled(i, 200)))
		if e == api.ErrFull && root == 0 {
			if i < most {
				t.Errorf("too many behind %d", i)
			}
			break
		}
		if e != api.OK {
			t.Fatalf("Put %d: %d", i, e)
		}
		p.root = root
		p.set(k, filled(i, 200))
		p.brief()
	}
	if p.open(); p.x.Free() != great-area {
		t.Errorf("%d are free", p.x.Free())
	}
}

// Two trees on one disk know nothing of one another.
func TestTwoTrees(t *testing.T) {
	p := mounted(t, roomy)
	roots := [2]int{}
	for i := range 60 {
		for k := range roots {
			r, e := tree.Put(p.x, roots[k], []byte(fmt.Sprintf("k%02d", (i+k)%60)), []byte(filled(i*2+k, 90)))
			if e != api.OK {
				t.Fatalf("Put: %d", e)
			}
			roots[k] = r
		}
		p.done()
	}
	a, _ := tree.Pages(p.x, roots[0])
	b, _ := tree.Pages(p.x, roots[1])
	if a+b != roomy-area-p.x.Free() {
		t.Errorf("%d and %d pages, %d are free", a, b, p.x.Free())
	}
	for i := range 60 {
		r, had, e := tree.Delete(p.x, roots[0], []byte(fmt.Sprintf("k%02d", i)))
		if !had || e != api.OK {
			t.Fatalf("Delete: %t, %d", had, e)
		}
		roots[0] = r
		p.done()
		if l, e := tree.Scan(p.x, roots[1], nil, 100); e != api.OK || len(l) != 60 || string(l[59].Value) != filled(58*2+1, 90) {
			t.Fatalf("the other tree: %d, %d", len(l), e)
		}
	}
	if roots[0] != 0 || roomy-area-p.x.Free() != b {
		t.Errorf("the root is %d, %d are free", roots[0], p.x.Free())
	}
}
