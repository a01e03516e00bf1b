package tree

import (
	"bytes"
	"fmt"
	"math"
	"strings"
	"testing"

	"stele/api"
	"stele/disk"
	"stele/journal"
	"stele/space"
)

// Pages by hand: those that no call makes, on a disk.

// byHand: a transaction with these pages, whose sectors, from 51 on, are taken.
func byHand(t *testing.T, l ...page) *space.Tx {
	t.Helper()
	d, _ := disk.New(api.MaxDisk)
	j, _ := journal.Mount(d)
	x, _ := space.Open(j)
	step := func(e api.Errno) {
		t.Helper()
		if e != api.OK {
			t.Fatalf("by hand: %d", e)
		}
		if x.Left() < 3 {
			x.Commit()
			x, _ = space.Open(j)
		}
	}
	// All of them ahead of the first page, since one that is taken is 0 then.
	for range l {
		_, e := x.Take()
		step(e)
	}
	for _, p := range l {
		step(x.Write(p.at, p.sector()))
	}
	x.Commit()
	x, _ = space.Open(j)
	return x
}

// leaf: a page of entries that have no values.
func leaf(at int, keys ...string) page {
	p := page{at: at}
	for _, k := range keys {
		p.entries = append(p.entries, Entry{Key: []byte(k)})
	}
	return p
}

func above(at, level int, kids ...int) page { return page{at: at, level: level, kids: kids} }

// answers: the errors of Get, Put, Delete, Scan, Pages.
func answers(x *space.Tx, root int, key string) string {
	k := []byte(key)
	_, _, get := Get(x, root, k)
	_, scan := Scan(x, root, nil, math.MaxInt)
	_, count := Pages(x, root)
	_, put := Put(x, root, k, nil)
	_, _, del := Delete(x, root, k)
	return fmt.Sprintf("%d %d %d %d %d", get, put, del, scan, count)
}

func TestPageByHand(t *testing.T) {
	x := byHand(t, above(51, 1, 52, 53), leaf(52, "a", "b"), leaf(53, "c"))
	l, e := Scan(x, 51, nil, 9)
	n, e2 := Pages(x, 51)
	if e != api.OK || e2 != api.OK || len(l) != 3 || n != 3 {
		t.Errorf("%v, %d; %d, %d", l, e, n, e2)
	}
	if s := answers(x, 51, "bb"); s != "0 0 0 0 0" {
		t.Errorf("%s", s)
	}
}

// A page that names itself, or one above it, or is not of the level that it should be.
func TestPagesWithoutEnd(t *testing.T) {
	for name, l := range map[string][]page{
		"names itself":          {above(51, 1, 51, 52), leaf(52, "c")},
		"names itself twice":    {above(51, 1, 51, 51)},
		"names itself, behind":  {above(51, 1, 52, 51), leaf(52, "c")},
		"names one above":       {above(51, 2, 52, 53), above(52, 1, 51, 54), above(53, 1, 51, 54), leaf(54, "c")},
		"name each other":       {above(51, 1, 52, 52), above(52, 1, 51, 51)},
		"entries too high":      {above(51, 2, 52, 53), leaf(52, "a"), leaf(53, "c")},
		"kids too high":         {above(51, 1, 52, 53), above(52, 2, 54, 55), above(53, 2, 54, 55)},
		"kids where entries do": {above(51, 1, 52, 53), above(52, 1, 54, 55), above(53, 1, 54, 55), leaf(54, "a"), leaf(55, "c")},
		"higher than any":       {above(51, 12, 52, 53), above(52, 11, 54, 55), above(53, 11, 54, 55)},
		"highest":               {above(51, 255, 52, 53), above(52, 254, 54, 55), above(53, 254, 54, 55)},
		"one kid":               {above(51, 1, 52), leaf(52, "a", "b", "c")},
		"no kid":                {above(51, 1)},
		"no entry":              {leaf(51)},
		"a kid that is the map": {above(51, 1, 49, 49)},
		"a kid that is a slot":  {above(51, 1, 3, 4)},
		"a kid that is the seal": {
			above(51, 1, 0, 0)},
		"kids of no bytes": {above(51, 1, 80, 81)},
	} {
		if s := answers(byHand(t, l...), 51, "b"); strings.Trim(s, "4 ") != "" {
			t.Errorf("%s: %s", name, s)
		}
	}
	if s := answers(byHand(t, above(51, 1, 4096, 65535)), 51, "b"); s != "50 50 50 50 50" {
		t.Errorf("kids beyond the disk: %s", s)
	}
}

// Pages that two others name each, level upon level: gone through one by one, they would be more than one can wait for.
func TestPagesNamedTwice(t *testing.T) {
	l := []page{leaf(51, "a"), leaf(52, "c")}
	for level := 1; level <= tallest; level++ {
		at := 51 + 2*level
		l = append(l, above(at, level, at-2, at-1), above(at+1, level, at-2, at-1))
	}
	x := byHand(t, l...)
	_, e := Pages(x, 51+2*tallest)
	_, e2 := Scan(x, 51+2*tallest, nil, math.MaxInt)
	if e != api.ErrForm || e2 != api.ErrForm {
		t.Errorf("%d, %d", e, e2)
	}
	answers(x, 51+2*tallest, "b")
	// Many kids that are one and the same.
	wide := []page{leaf(51, "a")}
	for level := 1; level <= tallest; level++ {
		p := above(51+level, level)
		for range room / kidSize {
			p.kids = append(p.kids, 50+level)
		}
		wide = append(wide, p)
	}
	x = byHand(t, wide...)
	for _, key := range []string{"\x00", "a", "b"} {
		answers(x, 51+tallest, key)
	}
	if _, e := Pages(x, 51+tallest); e != api.ErrForm {
		t.Errorf("Pages: %d", e)
	}
}

// Keys that are not in order.
func TestPagesOutOfOrder(t *testing.T) {
	for name, l := range map[string][]page{
		"in a page":       {leaf(51, "b", "a")},
		"twice":           {leaf(51, "a", "a")},
		"beyond a page":   {above(51, 1, 52, 53), leaf(52, "c"), leaf(53, "a")},
		"twice, beyond":   {above(51, 1, 52, 53), leaf(52, "a"), leaf(53, "a")},
		"the same page":   {above(51, 1, 52, 52), leaf(52, "a")},
		"one in another":  {above(51, 1, 52, 53), leaf(52, "a", "c"), leaf(53, "b")},
		"below, far away": {above(51, 2, 52, 53), above(52, 1, 54, 55), above(53, 1, 56, 57), leaf(54, "m"), leaf(55, "n"), leaf(56, "a"), leaf(57, "z")},
	} {
		x := byHand(t, l...)
		_, scan := Scan(x, 51, nil, math.MaxInt)
		_, count := Pages(x, 51)
		if scan != api.ErrForm || count != api.ErrForm {
			t.Errorf("%s: %d, %d", name, scan, count)
		}
		answers(x, 51, "b")
	}
}

// Entries and bytes that no page has.
func TestBytesThatNoPageHas(t *testing.T) {
	good := leaf(51, "a", "b").sector()
	if p := pageOf(good); !bytes.Equal(p.sector(), good) {
		t.Errorf("%v", p)
	}
	for name, turn := range map[string]func(b []byte) []byte{
		"another mark":      func(b []byte) []byte { b[0]++; return b },
		"a byte behind":     func(b []byte) []byte { b[511] = 1; return b },
		"a byte just there": func(b []byte) []byte { b[9] = 1; return b },
		"one less":          func(b []byte) []byte { b[2]--; return b },
		"one more":          func(b []byte) []byte { b[2]++; return b },
		"a key of no bytes": func(b []byte) []byte { return leaf(51, "", "a").sector() },
		"a long key":        func(b []byte) []byte { return leaf(51, strings.Repeat("a", MaxKey+1)).sector() },
		"a great item": func(b []byte) []byte {
			return page{entries: []Entry{{[]byte("a"), make([]byte, api.MaxItem)}}}.sector()
		},
		"a key beyond":   func(b []byte) []byte { b[2], b[3] = 1, 255; return b },
		"none":           func(b []byte) []byte { return nil },
		"two bytes":      func(b []byte) []byte { return b[:2] },
		"cut in a key":   func(b []byte) []byte { return b[:8] },
		"kids cut short": func(b []byte) []byte { return above(51, 1, 60, 61).sector()[:6] },
	} {
		if e := guarded(func() { pageOf(turn(bytes.Clone(good))) }); e != api.ErrForm {
			t.Errorf("%s: %d", name, e)
		}
	}
	if e := guarded(func() { pageOf(above(51, tallest+1, 60, 61).sector()) }); e != api.ErrForm {
		t.Errorf("a page too high: %d", e)
	}
	if e := guarded(func() { pageOf(above(51, tallest, 60, 61).sector()) }); e != api.OK {
		t.Errorf("one just as high as may be: %d", e)
	}
	long := leaf(51, strings.Repeat("a", MaxKey))
	long.entries[0].Value = make([]byte, api.MaxItem-MaxKey)
	if e := guarded(func() { pageOf(long.sector()) }); e != api.OK {
		t.Errorf("an item of the limits: %d", e)
	}
}

// A page above pages that has few is right, though no call leaves it so: what goes from beneath it leaves each page two kids at least.
func TestFewKids(t *testing.T) {
	for _, gone := range []string{"a", "b", "c", "d"} {
		x := byHand(t, above(51, 2, 52, 53), above(52, 1, 54, 55), above(53, 1, 56, 57), leaf(54, "a"), leaf(55, "b"), leaf(56, "c"), leaf(57, "d"))
		checkWithout(t, x, 4, 5, gone)
	}
}

// A page of few entries is joined with the one ahead of it, or the one behind it, whichever leaves room.
func TestJoinedWithEither(t *testing.T) {
	full := func(at int, sign string) page {
		p := leaf(at, long(sign, "1"), long(sign, "2"), long(sign, "3"), long(sign, "4"))
		p.entries[0].Value = make([]byte, room-p.size())
		return p
	}
	for _, l := range [][]page{
		{above(51, 1, 52, 53, 54), full(52, "a"), leaf(53, "c", "d"), leaf(54, "e")},
		{above(51, 1, 52, 53, 54), leaf(52, "b"), leaf(53, "c", "d"), full(54, "e")},
		{above(51, 1, 52, 53), leaf(52, "c", "d"), leaf(53, "e")},
		{above(51, 1, 52, 53), leaf(52, "b"), leaf(53, "c", "d")},
	} {
		count := 0
		for _, p := range l {
			count += len(p.entries)
		}
		checkWithout(t, byHand(t, l...), count, len(l)-1, "c")
	}
	// Neither leaves room: all stay, and no other page is written.
	x := byHand(t, above(51, 1, 52, 53, 54), full(52, "a"), leaf(53, long("c", ""), "d"), full(54, "e"))
	checkWithout(t, x, 10, 4, "d")
	if x.Left() != api.MaxTx-1 {
		t.Errorf("%d sectors were written", api.MaxTx-x.Left())
	}
}

// long: a key of the greatest length.
func long(begins, ends string) string {
	return begins + strings.Repeat("x", MaxKey-len(begins)-len(ends)) + ends
}

// A scan ends where it has enough: it does not go through what lies far behind that.
func TestScanReadsNoMore(t *testing.T) {
	x := byHand(t, above(51, 2, 52, 53), above(52, 1, 54, 55), above(53, 1, 56, 57), leaf(54, "a", "b"), leaf(55, "c"), leaf(56, "d"), leaf(57))
	for most, want := range []api.Errno{api.OK, api.OK, api.OK, api.OK, api.ErrForm} {
		if l, e := Scan(x, 51, nil, most); e != want || e == api.OK && len(l) != most {
			t.Errorf("%d: %d, %d", most, len(l), e)
		}
	}
}

// A page stands in no sector that can't be taken.
func TestPageInTheRootsSector(t *testing.T) {
	x := byHand(t, leaf(space.Root, "a"), above(51, 1, space.Root, 52), leaf(52, "c"))
	for _, root := range []int{space.Root, 51} {
		if s := answers(x, root, "a"); strings.Trim(s, "4 ") != "" {
			t.Errorf("root %d: %s", root, s)
		}
	}
}

// A page with one kid left, beside one that has as many as it can.
func TestOneKidBesideMany(t *testing.T) {
	most := room / kidSize
	for _, first := range []int{0, most} {
		few, many := above(52, 1), above(53, 1)
		l := []page{above(51, 2, 52, 53)}
		if first > 0 {
			l[0] = above(51, 2, 53, 52)
		}
		for i := range most + 2 {
			l = append(l, leaf(54+i, fmt.Sprintf("%03d", i)))
			if i == first || i == first+1 {
				few.kids = append(few.kids, 54+i)
			} else {
				many.kids = append(many.kids, 54+i)
			}
		}
		x := byHand(t, append(l, few, many)...)
		checkWithout(t, x, most+2, most+4, fmt.Sprintf("%03d", first+1))
	}
}

// checkWithout: the tree of root 51, which had so many entries, has all but one; and at most so many pages.
func checkWithout(t *testing.T, x *space.Tx, had, pages int, gone string) {
	t.Helper()
	root, ok, e := Delete(x, 51, []byte(gone))
	if !ok || e != api.OK {
		t.Fatalf("Delete(%s): %t, %d", gone, ok, e)
	}
	l, e := Scan(x, root, nil, math.MaxInt)
	n, e2 := Pages(x, root)
	if e != api.OK || e2 != api.OK || len(l) != had-1 || n > pages {
		t.Fatalf("without %s: %d, %d; %d, %d", gone, len(l), e, n, e2)
	}
	for _, entry := range l {
		if _, has, e := Get(x, root, entry.Key); !has || e != api.OK {
			t.Fatalf("without %s: Get(%s): %t, %d", gone, entry.Key, has, e)
		}
	}
	if _, has, e := Get(x, root, []byte(gone)); has || e != api.OK {
		t.Fatalf("Get(%s): %t, %d", gone, has, e)
	}
}

// What a page above pages has one too many of is parted in halves neither of which is slim.
func TestHalvesOfKids(t *testing.T) {
	most := room / kidSize
	p := above(51, 1)
	for i := range most {
		p.kids = append(p.kids, 60+i)
	}
	if !p.fits() || !bytes.Equal(pageOf(p.sector()).sector(), p.sector()) {
		t.Errorf("%d kids do not fit", most)
	}
	p.kids = append(p.kids, 60+most)
	left, right := p.halves()
	if p.fits() || left.slim() || right.slim() || left.len()+right.len() != most+1 {
		t.Errorf("%d and %d", left.len(), right.len())
	}
}

// What is left by another panic than this package's is told too.
func TestGuarded(t *testing.T) {
	var none []int
	if e := guarded(func() { none[0]++ }); e != api.ErrForm {
		t.Errorf("%d", e)
	}
	if e := guarded(func() { need(false, api.ErrFull) }); e != api.ErrFull {
		t.Errorf("%d", e)
	}
	if e := guarded(func() { need(true, api.ErrFull) }); e != api.OK {
		t.Errorf("%d", e)
	}
}
