package tree_test

import (
	"fmt"
	"math"
	"math/rand"
	"slices"
	"testing"

	"stele/api"
	"stele/tree"
)

// P1305

// all: what a tree tells by Scan, as one text, and by Get of each key.
func (p *paper) all() string {
	p.t.Helper()
	l, e := tree.Scan(p.x, p.root, nil, math.MaxInt)
	if e != api.OK {
		p.t.Fatalf("Scan: %d", e)
	}
	text := ""
	for _, entry := range l {
		v, has, e := tree.Get(p.x, p.root, entry.Key)
		text += fmt.Sprintf("%q %q %q %t %d;", entry.Key, entry.Value, v, has, e)
	}
	return text
}

// The same few entries, put in each order that there is.
func TestEachOrderOfAFew(t *testing.T) {
	t.Parallel()
	l := []string{"a", long("b", longest), "c", long("ca", 60), "d", long("e", longest)}
	value := func(k string) string { return filled(len(k), len(k)*37%(item-len(k)+1)) }
	told := map[string]int{}
	count := 0
	var try func(order []string)
	try = func(order []string) {
		if len(order) < len(l) {
			for _, k := range l {
				if !slices.Contains(order, k) {
					try(append(slices.Clone(order), k))
				}
			}
			return
		}
		p := mounted(t, small)
		for _, k := range order {
			p.put(k, value(k))
		}
		p.brief()
		told[p.all()]++
		count++
		for _, k := range order {
			p.del(k)
		}
		p.brief()
	}
	try(nil)
	if len(told) != 1 || count != 720 {
		t.Errorf("%d things are told of %d orders", len(told), count)
	}
}

// The same entries in orders of chance, with others put and deleted between, and elder values ahead of theirs.
func TestAnyOrderIsToldTheSame(t *testing.T) {
	t.Parallel()
	r := rand.New(rand.NewSource(1305))
	type entry struct{ key, value string }
	var l []entry
	for i := range 250 {
		k := string([]byte{byte(r.Intn(256)), byte(i)}) + long("", r.Intn(longest-1))
		l = append(l, entry{k, filled(i, r.Intn(item-len(k)+1))})
	}
	told := map[string]int{}
	for round := range 12 {
		p := mounted(t, great)
		var others []string
		r.Shuffle(len(l), func(a, b int) { l[a], l[b] = l[b], l[a] })
		for i, x := range l {
			for range r.Intn(3) * (round % 3) {
				k := "other" + string([]byte{byte(r.Intn(256)), byte(r.Intn(256))})
				if r.Intn(2) == 0 {
					k = l[r.Intn(len(l))].key + "!"
				}
				if len(k) <= longest {
					p.put(k, filled(i, r.Intn(item-len(k)+1)))
					others = append(others, k)
				}
			}
			if r.Intn(4) == 0 {
				p.put(x.key, filled(i, r.Intn(item-len(x.key)+1)))
			}
			if r.Intn(4) == 0 {
				p.del(x.key)
			}
			p.put(x.key, x.value)
			if len(others) > 0 && r.Intn(2) == 0 {
				p.del(others[r.Intn(len(others))])
			}
			p.done()
		}
		for _, k := range others {
			p.del(k)
			p.done()
		}
		p.look()
		told[p.all()]++
	}
	if len(told) != 1 {
		t.Errorf("%d things are told", len(told))
	}
}

// Walks of chance over puts and deletes of sizes that come and go, some transactions not committed, some crashed.
func TestWalks(t *testing.T) {
	t.Parallel()
	for seed := range 6 {
		r := rand.New(rand.NewSource(int64(seed)))
		p := mounted(t, great)
		span, bytes := 60+seed*150, []int{0, 8, 60, 130, 230, 236}[seed]
		full, puts, dels := 0, 0, 0
		for round := range 500 {
			root, has := p.root, map[string]string{}
			for k, v := range p.has {
				has[k] = v
			}
			grow := round/80%2 == 0
			for range 1 + r.Intn(6) {
				k := fmt.Sprintf("%03d", r.Intn(span))
				if r.Intn(4) > 0 == grow {
					p.put(k, filled(r.Intn(99), r.Intn(bytes+1)))
					puts++
				} else if p.del(k) {
					dels++
				}
			}
			switch r.Intn(8) {
			case 0:
				p.open()
				p.root, p.has, p.keys = root, has, nil
				full++
			case 1:
				p.again()
			default:
				p.done()
			}
			p.brief()
		}
		p.look()
		if full < 20 || puts < 300 || dels < 100 {
			t.Errorf("%d: %d not committed, %d put, %d deleted", seed, full, puts, dels)
		}
		for _, k := range mixed(slices.Clone(p.sorted())) {
			p.del(k)
			p.done()
		}
		p.brief()
	}
}

// A commit that is cut off leaves the tree as it was, or as it was to be.
func TestCutOff(t *testing.T) {
	t.Parallel()
	without, with := 0, 0
	for arm := range 30 {
		for way := range 3 {
			p := mounted(t, roomy)
			for i, k := range names(60) {
				p.put(k, filled(i, 110))
				p.done()
			}
			elder, root := p.all(), p.root
			for _, k := range names(60)[20:28] {
				p.del(k)
			}
			p.put("k00020+", filled(1, 200))
			p.put("k00050+", filled(2, 200))
			newer := p.all()
			p.d.Arm(arm)
			e := p.x.Commit()
			keep := make([]bool, p.d.Cached())
			for k := range keep {
				keep[k] = way == 2 || way == 1 && k%2 == 0
			}
			p.d.Crash(keep)
			p.mount()
			now := p.root
			p.root = root
			old, failed := tree.Scan(p.x, root, nil, math.MaxInt)
			if failed == api.OK && len(old) == 60 && p.all() == elder && e == api.ErrDown {
				without++
				continue
			}
			p.root = now
			if p.all() != newer {
				t.Fatalf("cut off at %d, %d: neither", arm, way)
			}
			p.look()
			with++
		}
	}
	if without < 10 || with < 10 {
		t.Errorf("%d without, %d with it", without, with)
	}
}
