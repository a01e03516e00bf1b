package journal_test

import (
	"fmt"
	"maps"
	"math/rand"
	"slices"
	"strings"
	"testing"

	"stele/api"
)

// P1005

// counts: how often the area came up without the transaction that was under way, and with it.
type counts struct{ without, with int }

// cutCommit: a twin of base, with the transaction cut off at a write, and crashed in the way-th way; false, if there are not so many.
func cutCommit(base *paper, sectors map[int]byte, arm, way int) (q *paper, e api.Errno, ok bool) {
	q = base.twin()
	q.mount()
	x := q.begin().writes(sectors)
	q.arm(arm)
	e = x.commit()
	if way >= 1<<q.d.Cached() {
		return nil, e, false
	}
	q.crash(ways(q.d.Cached())[way])
	return q, e, true
}

// cutMount: a twin of q whose mount is cut off likewise, and then done.
func cutMount(q *paper, arm, way int) (c *paper, cut, ok bool) {
	c = q.twin()
	c.arm(arm)
	cut = !c.mount()
	if way >= 1<<c.d.Cached() {
		return nil, cut, false
	}
	c.crash(ways(c.d.Cached())[way])
	c.mount()
	return c, cut, true
}

// cutEverywhere: base with each of the sectors, cut off at each write and crashed in each way; mount is cut off at each write, and crashed in each way, too.
func cutEverywhere(t *testing.T, base *paper, sectors map[int]byte, n *counts) {
	t.Helper()
	before := base.areaOf()
	done := base.twin()
	done.mount()
	done.does(sectors)
	after := done.areaOf()
	for arm := 0; ; arm++ {
		answer := api.OK
		for way := 0; ; way++ {
			q, e, ok := cutCommit(base, sectors, arm, way)
			answer = e
			if !ok {
				break
			}
			whole(t, q, before, after, e, n)
		}
		if answer == api.OK {
			return
		}
	}
}

// whole: a crashed disk comes up in one of two ways, however mount is cut off.
func whole(t *testing.T, q *paper, before, after string, e api.Errno, n *counts) {
	t.Helper()
	up := q.twin()
	up.mount()
	switch area := up.areaOf(); {
	case area == after:
		n.with++
	case e == api.OK || area != before:
		t.Fatalf("behind Commit %d the area is neither of both", e)
	default:
		n.without++
	}
	up.readAll()
	for arm := 0; ; arm++ {
		off := false
		for way := 0; ; way++ {
			c, cut, ok := cutMount(q, arm, way)
			off = cut
			if !ok {
				break
			}
			if c.areaOf() != up.areaOf() || c.j.Seq() != up.j.Seq() {
				t.Fatalf("a mount cut off at write %d comes to another area, or Seq %d, not %d", arm, c.j.Seq(), up.j.Seq())
			}
		}
		if !off {
			break
		}
	}
	up.does(run(53, 2, 90))
	up.readAll()
}

// elders: what was committed ahead.
func elders() [][]map[int]byte {
	return [][]map[int]byte{
		nil,
		{run(50, 1, 1)},
		{run(50, 3, 1)},
		{run(50, 2, 1), run(51, 2, 7)},
		{run(50, 4, 1), run(60, 1, 2)},
	}
}

func TestWholeWhereverItIsCutOff(t *testing.T) {
	var n counts
	for _, l := range elders() {
		base := mounted(t, small)
		for _, sectors := range l {
			base.does(sectors)
		}
		for _, sectors := range []map[int]byte{
			run(50, 1, 1),         // slots as they were, perhaps
			run(51, 1, 1),         // likewise, of another sector
			{50: 1, 51: 9, 52: 3}, // likewise, the first and the last one
			run(50, 2, 20),
			run(51, 3, 20),
			{first: 30, small - 1: 31},
		} {
			cutEverywhere(t, base, sectors, &n)
		}
	}
	if n.without < 100 || n.with < 100 {
		t.Errorf("%d times without, %d times with the transaction under way", n.without, n.with)
	}
}

func TestWholeOfMoreSectors(t *testing.T) {
	if testing.Short() {
		t.Skip("takes seconds")
	}
	var n counts
	base := mounted(t, small)
	base.does(run(50, 5, 1))
	cutEverywhere(t, base, run(51, 4, 20), &n)
	base.does(run(49, 2, 1))
	cutEverywhere(t, base, run(50, 4, 2), &n)
	if n.without < 20 || n.with < 20 {
		t.Errorf("%d times without, %d times with the transaction under way", n.without, n.with)
	}
}

// The elder seal holds again when its slots come back, and finds its places as it left them.
func TestElderSealWithItsSlotsAgain(t *testing.T) {
	p := mounted(t, small)
	p.does(map[int]byte{50: 1})
	for range 3 {
		p.arm(1)
		p.begin().writes(map[int]byte{50: 2}).commit()
		p.crash([]bool{true})
		p.mount()
		if b, _ := p.j.Read(50); string(b) != filled(1) || p.j.Seq() != 0 {
			t.Fatalf("slots half written: %.12x.., Seq %d", b, p.j.Seq())
		}
		p.arm(1)
		p.begin().writes(map[int]byte{51: 1}).commit()
		p.crash([]bool{true})
		p.mount()
		a, _ := p.j.Read(50)
		b, _ := p.j.Read(51)
		if string(a) != filled(1) || string(b) != noughts() || p.j.Seq() != 1 {
			t.Fatalf("slots as they were: %.12x.., %.12x.., Seq %d", a, b, p.j.Seq())
		}
	}
}

func TestElderSealWhoseSlotsAreHalfWritten(t *testing.T) {
	for _, n := range []int{2, 3, 10, most} {
		base := mounted(t, roomy)
		base.does(run(first, n, 1))
		for arm := 1; arm <= n; arm++ {
			for _, one := range []bool{true, false} {
				p := base.twin()
				p.mount()
				x := p.begin().writes(run(first+2, n, 101))
				p.arm(arm)
				x.commit()
				keep := make([]bool, arm)
				for k := range keep {
					keep[k] = !one || k == arm-1
				}
				p.crash(keep)
				p.mount()
				if p.areaOf() != base.areaOf() || p.j.Seq() != 0 {
					t.Fatalf("%d of %d slots written: Seq %d, or another area", arm, n, p.j.Seq())
				}
				p.does(run(first, n, 51))
			}
		}
	}
}

// someSectors: a transaction of chance, with few marks, so that slots and places often are as they were.
func someSectors(r *rand.Rand, sectors int) map[int]byte {
	m := map[int]byte{}
	n := 1 + r.Intn(6)
	if r.Intn(5) == 0 {
		n = 1 + r.Intn(most)
	}
	for range n {
		m[first+r.Intn(sectors-first)] = byte(r.Intn(4))
	}
	return m
}

// someKeep: truths of chance, more or fewer of them than are asked for at times.
func someKeep(r *rand.Rand, n int) []bool {
	keep := make([]bool, max(0, n+r.Intn(5)-2))
	often := r.Intn(5)
	for k := range keep {
		keep[k] = r.Intn(4) < often
	}
	return keep
}

// comeUp: crashes and mounts, till one is not cut off.
func comeUp(r *rand.Rand, p *paper) (cut int) {
	for {
		p.crash(someKeep(r, p.d.Cached()))
		if r.Intn(2) == 0 {
			p.arm(r.Intn(5))
		}
		if p.mount() {
			p.arm(-1)
			return cut
		}
		cut++
	}
}

func TestWholeByChance(t *testing.T) {
	r := rand.New(rand.NewSource(10))
	rounds := 3000
	if testing.Short() {
		rounds = 300
	}
	var n counts
	cuts := 0
	for _, sectors := range []int{small, roomy} {
		p := mounted(t, sectors)
		for range rounds {
			x := p.begin().writes(someSectors(r, sectors))
			before := p.areaOf()
			after := withSectors(p, x.has)
			if r.Intn(4) > 0 {
				p.arm(r.Intn(2*len(x.has) + 2))
			}
			e := x.commit()
			cuts += comeUp(r, p)
			switch area := p.areaOf(); {
			case area == after:
				n.with++
			case e == api.OK || area != before:
				t.Fatalf("behind Commit %d the area is neither of both", e)
			default:
				n.without++
			}
			p.readAll()
		}
	}
	if least := rounds / 10; n.with < least || n.without < least || cuts < least {
		t.Errorf("%d times with, %d times without, %d mounts cut off", n.with, n.without, cuts)
	}
}

// withSectors: the area, if it had these.
func withSectors(p *paper, has map[int]string) string {
	var s strings.Builder
	for i := first; i < p.v.sectors; i++ {
		if text, ok := has[i]; ok {
			s.WriteString(text)
		} else {
			s.WriteString(p.v.seen(i))
		}
	}
	return s.String()
}

// All calls, by chance.

// calls: those that the bytes tell, each held against the words.
func calls(t *testing.T, in []byte) (done map[string]int) {
	done = map[string]int{}
	next := func() int {
		if len(in) == 0 {
			return 0
		}
		b := in[0]
		in = in[1:]
		return int(b)
	}
	p := mounted(t, small)
	l := []*page{p.begin()}
	for len(in) > 0 {
		x := l[next()%len(l)]
		i := first - 2 + next()%(small-first+4)
		kind := next() % 16
		done[fmt.Sprint(kind)]++
		switch kind {
		case 0, 1, 2, 3, 4, 5:
			n := size
			if i%5 == 0 {
				n = size - 1 + next()%3
			}
			b := make([]byte, n)
			copy(b, fill(byte(next()%5)))
			done[fmt.Sprint("Write ", int(x.write(i, b)))]++
		case 6:
			x.read(i)
		case 7:
			p.read(i)
		case 8, 9:
			l = append(l, p.begin())
		case 10, 11, 12:
			done[fmt.Sprint("Commit ", int(x.commit()))]++
		case 13:
			p.arm(next()%12 - 1)
		case 14:
			keep := make([]bool, next()%8)
			for k := range keep {
				keep[k] = next()%2 == 0
			}
			p.crash(keep)
		case 15:
			old := *p
			if !p.mount() {
				// The elder journal goes on: nobody took it away.
				p.j, p.seq, p.dead = old.j, old.seq, old.dead
				continue
			}
			done["mounted"]++
			l = []*page{p.begin()}
		}
	}
	p.look()
	p.readAll()
	for _, x := range l {
		x.readAll()
	}
	return done
}

func TestCallsByChance(t *testing.T) {
	r := rand.New(rand.NewSource(1010))
	rounds := 2000
	if testing.Short() {
		rounds = 200
	}
	all := map[string]int{}
	for range rounds {
		in := make([]byte, 20+r.Intn(600))
		r.Read(in)
		for what, n := range calls(t, in) {
			all[what] += n
		}
	}
	for _, what := range []string{"Write 0", "Write 1", "Write 50", "Write 51", "Commit 0", "Commit 51", "mounted"} {
		if all[what] < rounds/4 {
			t.Errorf("%s: %d times", what, all[what])
		}
	}
}

func FuzzCalls(f *testing.F) {
	f.Add([]byte{0, 3, 0, 1, 0, 3, 10})
	f.Add([]byte{0, 3, 0, 1, 0, 4, 0, 2, 0, 0, 13, 4, 0, 0, 10, 0, 0, 14, 1, 0, 0, 0, 15})
	f.Fuzz(func(t *testing.T, in []byte) {
		if len(in) < 1000 {
			calls(t, in)
		}
	})
}

// A front of any bytes is mounted as the words say.
func FuzzMount(f *testing.F) {
	data := filledEach(1, 2)
	f.Add([]byte(sealText(1, []uint64{50, 60}, data)), byte(1), byte(2), false)
	f.Add([]byte(sealText(1, nil, nil)), byte(1), byte(2), true)
	for _, what := range slices.Sorted(maps.Keys(wrongSeals(data))) {
		f.Add([]byte(wrongSeals(data)[what]), byte(1), byte(2), true)
	}
	f.Fuzz(func(t *testing.T, seal []byte, a, b byte, right bool) {
		p := blank(t, small)
		s := padded(string(seal[:min(size, len(seal))]))
		slots := []string{filled(a), filled(b)}
		if right {
			s = rightDigest(s, slots)
		}
		p.setSeal(s, slots)
		p.mount()
		p.readAll()
	})
}

// rightDigest: a seal with its head as it is, and the digest of that and of two slots.
func rightDigest(s string, slots []string) string {
	at := 24 + 9*(int(s[23])%3)
	all := s[:at]
	for k := range int(s[23]) % 3 {
		all += slots[k]
	}
	return padded(s[:at] + longPart('b', sum(all)))
}
