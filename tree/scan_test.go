package tree_test

import (
	"fmt"
	"math"
	"strings"
	"testing"

	"stele/api"
	"stele/space"
	"stele/tree"
)

// P1302

func TestScanFromEach(t *testing.T) {
	p := mounted(t, great)
	for i, k := range names(300) {
		p.put(k[:4]+"-"+k[4:], filled(i, i%200))
		p.done()
	}
	p.look()
	edges := []int{math.MinInt, math.MinInt32, -1, 0, 1, 2, 7, 299, 300, 301, math.MaxInt32, math.MaxInt}
	for _, from := range []string{"", "\x00", "j", "k", "k000-00", "k001-50", "k001-5", "k001-50\x00", "k001-55", "k002-98", "k002-99", "k002-99\x00", "k003", "l", "\xff"} {
		for _, n := range edges {
			p.scans(from, n)
		}
	}
}

// What a scan begins with need not be a key.
func TestScanFromNoKey(t *testing.T) {
	p := mounted(t, small)
	for i, k := range []string{strings.Repeat("m", longest-1), strings.Repeat("m", longest), strings.Repeat("m", longest-1) + "n", "n"} {
		p.put(k, filled(i, 3))
	}
	for _, from := range []string{"", strings.Repeat("m", longest+1), strings.Repeat("m", 5000), strings.Repeat("l", 5000), strings.Repeat("\xff", 5000), strings.Repeat("\x00", 5000)} {
		for n := range 6 {
			p.scans(from, n)
		}
	}
	for _, from := range [][]byte{nil, {}} {
		if l, e := tree.Scan(p.x, p.root, from, 9); e != api.OK || len(l) != 4 {
			t.Errorf("%d, %d", len(l), e)
		}
	}
}

// To go on behind the last that was told is to be told all.
func TestScanInSteps(t *testing.T) {
	p := mounted(t, great)
	for i, k := range mixed(names(500)) {
		p.put(k, filled(i, i%90))
		p.done()
	}
	for _, step := range []int{1, 2, 7, 100, 499, 500} {
		var all []tree.Entry
		from := []byte{}
		for {
			l, e := tree.Scan(p.x, p.root, from, step)
			if e != api.OK || len(l) > step {
				t.Fatalf("by %d: %d, %d", step, len(l), e)
			}
			all = append(all, l...)
			if len(l) < step {
				break
			}
			from = append(l[len(l)-1].Key, 0)
		}
		if len(all) != 500 {
			t.Fatalf("by %d: %d entries", step, len(all))
		}
		for i, e := range all {
			if k := fmt.Sprintf("k%05d", i); string(e.Key) != k || p.has[k] == "" && len(e.Value) > 0 {
				t.Fatalf("by %d: entry %d is %q", step, i, e.Key)
			}
		}
	}
}

// A value of no bytes is one.
func TestValuesOfNoBytes(t *testing.T) {
	p := mounted(t, small)
	root, e := tree.Put(p.x, 0, []byte("a"), nil)
	root, e2 := tree.Put(p.x, root, []byte("b"), []byte{})
	if e != api.OK || e2 != api.OK {
		t.Fatalf("Put: %d, %d", e, e2)
	}
	for _, k := range []string{"a", "b"} {
		if v, has, e := tree.Get(p.x, root, []byte(k)); len(v) != 0 || !has || e != api.OK {
			t.Errorf("Get(%s): %x, %t, %d", k, v, has, e)
		}
	}
	if l, e := tree.Scan(p.x, root, nil, 5); e != api.OK || len(l) != 2 || len(l[0].Value)+len(l[1].Value) != 0 {
		t.Errorf("Scan: %v, %d", l, e)
	}
}

// To ask changes nothing, neither the transaction nor the disk.
func TestToAskChangesNothing(t *testing.T) {
	p := mounted(t, roomy)
	for i, k := range names(80) {
		p.put(k, filled(i, 90))
		p.done()
	}
	left, free := p.x.Left(), p.x.Free()
	writes, flushes := p.d.Count()
	p.look()
	p.del("none")
	w, f := p.d.Count()
	if p.x.Left() != left || p.x.Free() != free || w != writes || f != flushes {
		t.Errorf("Left %d, Free %d; not %d, %d", p.x.Left(), p.x.Free(), left, free)
	}
}

// P1303

func TestPages(t *testing.T) {
	p := mounted(t, great)
	if n, e := tree.Pages(p.x, 0); n != 0 || e != api.OK {
		t.Errorf("of none: %d, %d", n, e)
	}
	p.put("m", filled(1, 239))
	if n := p.pages(); n != 1 {
		t.Errorf("of one entry: %d", n)
	}
	p.put("n", filled(2, 239))
	if n := p.pages(); n < 1 || n > 3 {
		t.Errorf("of two: %d", n)
	}
	p.put("l", filled(3, 239))
	if n := p.pages(); n < 2 || n > 5 {
		t.Errorf("of three: %d", n)
	}
	p.done()
	// No two of the greatest fit with a third into a page: so many pages have them at least.
	for i, k := range mixed(names(400)) {
		p.put(k, filled(i, item-len(k)))
		p.done()
		if n := p.pages(); n < (len(p.has)+1)/2 {
			t.Fatalf("of %d: %d", len(p.has), n)
		}
	}
	for _, k := range names(400) {
		p.del(k)
		p.done().pages()
	}
	p.del("m")
	p.del("l")
	if n := p.pages(); n != 1 {
		t.Errorf("of one entry: %d", n)
	}
	p.del("n")
	if n, e := tree.Pages(p.x, p.root); n != 0 || e != api.OK || p.root != 0 {
		t.Errorf("of none: %d, %d", n, e)
	}
}

// The errors, of all calls

// call: what a call answered, as its error, and is all else zero?
type call func(x *space.Tx, root int, key, value []byte) (e api.Errno, zero bool)

func calls() map[string]call {
	return map[string]call{
		"Get": func(x *space.Tx, root int, key, value []byte) (api.Errno, bool) {
			v, has, e := tree.Get(x, root, key)
			return e, v == nil && !has
		},
		"Put": func(x *space.Tx, root int, key, value []byte) (api.Errno, bool) {
			r, e := tree.Put(x, root, key, value)
			return e, r == 0
		},
		"Delete": func(x *space.Tx, root int, key, value []byte) (api.Errno, bool) {
			r, had, e := tree.Delete(x, root, key)
			return e, r == 0 && !had
		},
		"Scan": func(x *space.Tx, root int, key, value []byte) (api.Errno, bool) {
			l, e := tree.Scan(x, root, key, math.MaxInt)
			return e, l == nil
		},
		"Pages": func(x *space.Tx, root int, key, value []byte) (api.Errno, bool) {
			n, e := tree.Pages(x, root)
			return e, n == 0
		},
	}
}

func TestNil(t *testing.T) {
	for name, do := range calls() {
		for _, root := range []int{math.MinInt, -1, 0, 1, chart, area, small, math.MaxInt} {
			for _, n := range []int{0, 1, longest, longest + 1, item + 1} {
				if e, zero := do(nil, root, make([]byte, n), make([]byte, n)); e != api.ErrNil || !zero {
					t.Errorf("%s of nil, root %d, key of %d: %d, %t", name, root, n, e, zero)
				}
			}
		}
	}
	if l, e := tree.Scan(nil, 0, nil, 0); e != api.ErrNil || l != nil {
		t.Errorf("Scan of nil: %v, %d", l, e)
	}
}

func TestKeysAndItemsThatAreNone(t *testing.T) {
	p := mounted(t, small)
	p.put("a", "1")
	p.put("b", "2")
	p.done()
	type pair struct{ key, value int }
	none := []pair{{0, 0}, {0, 1}, {0, item}, {0, item + 1}, {longest + 1, 0}, {longest + 1, item - longest - 1}, {longest + 1, item}, {item, 0}, {item + 1, 0}, {5000, 0}, {255 + 2, 0}, {256 + 1, 256}, {65536 + 1, 65536}}
	big := []pair{{1, item}, {longest, item - longest + 1}, {longest, item}, {2, item - 1}, {50, item - 49}, {1, 255}, {1, 256}, {1, 257}, {1, 65536}, {1, 100000}}
	right := []pair{{1, 0}, {1, item - 1}, {longest, 0}, {longest, item - longest}, {50, item - 50}}
	wrong := []int{math.MinInt, -1, 7, chart, chart + 1, 60, small, great, math.MaxInt}
	for _, root := range append(wrong, 0, p.root) {
		for _, l := range none {
			k, v := make([]byte, l.key), make([]byte, l.value)
			for _, name := range []string{"Get", "Put", "Delete"} {
				if e, zero := calls()[name](p.x, root, k, v); e != api.ErrArg || !zero {
					t.Errorf("%s of root %d, key of %d, value of %d: %d, %t", name, root, l.key, l.value, e, zero)
				}
			}
		}
		for _, l := range big {
			k, v := make([]byte, l.key), make([]byte, l.value)
			if e, zero := calls()["Put"](p.x, root, k, v); e != api.ErrArg || !zero {
				t.Errorf("Put of root %d, key of %d, value of %d: %d, %t", root, l.key, l.value, e, zero)
			}
		}
	}
	p.look()
	if p.x.Left() != most {
		t.Errorf("Left %d", p.x.Left())
	}
	for _, l := range right {
		p.put(string(make([]byte, l.key)), string(make([]byte, l.value)))
		p.look()
	}
}

// A key that is none goes ahead of what the transaction would say.
func TestArgumentsGoAhead(t *testing.T) {
	p := mounted(t, roomy)
	p.put("a", "1")
	p.done()
	p.room(0)
	full := p.x
	p.open()
	p.x.Commit()
	committed := p.x
	p.open()
	p.wreck()
	for name, x := range map[string]*space.Tx{"full": full, "committed": committed, "down": p.x} {
		for _, call := range []string{"Get", "Put", "Delete"} {
			for _, n := range []int{0, longest + 1} {
				if e, zero := calls()[call](x, p.root, make([]byte, n), nil); e != api.ErrArg || !zero {
					t.Errorf("%s, %s of a key of %d: %d, %t", name, call, n, e, zero)
				}
			}
		}
		if e, zero := calls()["Put"](x, p.root, []byte("a"), make([]byte, item)); e != api.ErrArg || !zero {
			t.Errorf("%s, Put: %d, %t", name, e, zero)
		}
	}
}

func TestCommittedTransaction(t *testing.T) {
	p := mounted(t, small)
	for i, k := range names(10) {
		p.put(k, filled(i, 100))
	}
	p.x.Commit()
	// It can be asked yet, but takes nothing.
	p.look()
	for _, k := range []string{"k00003", "new"} {
		if root, e := tree.Put(p.x, p.root, []byte(k), nil); e != api.ErrDown || root != 0 {
			t.Errorf("Put(%s): %d, %d", k, root, e)
		}
	}
	if root, e := tree.Put(p.x, 0, []byte("new"), nil); e != api.ErrDown || root != 0 {
		t.Errorf("Put to none: %d, %d", root, e)
	}
	if root, had, e := tree.Delete(p.x, p.root, []byte("k00003")); e != api.ErrDown || had || root != 0 {
		t.Errorf("Delete: %d, %t, %d", root, had, e)
	}
	p.look()
	p.open().look()
}

func TestDiskThatIsDown(t *testing.T) {
	p := mounted(t, roomy)
	for i, k := range names(40) {
		p.put(k, filled(i, 100))
		p.done()
	}
	p.wreck()
	for name, do := range calls() {
		for _, k := range []string{"k00000", "k00020", "new"} {
			if e, zero := do(p.x, p.root, []byte(k), nil); e != api.ErrDown || !zero {
				t.Errorf("%s(%s): %d, %t", name, k, e, zero)
			}
		}
	}
	// The empty tree has nothing on the disk.
	if _, has, e := tree.Get(p.x, 0, []byte("a")); has || e != api.OK {
		t.Errorf("Get of none: %t, %d", has, e)
	}
	p.d.Crash(nil)
	p.mount().look()
}
