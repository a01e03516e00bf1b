package audit_test

import (
	"bytes"
	"fmt"
	"math"
	"math/rand"
	"slices"
	"testing"

	"stele/api"
	"stele/audit"
)

// P1404

// Nobody knows two texts of one SHA-256. But records with negative numbers are
// shown as those with 0: they are not the same, and have one Digest.

// twins: two records that are not the same and have one Digest.
func twins() [][2]api.Record {
	kind := func(n int, e api.Errno) api.Record { return with(func(r *api.Record) { r.Kind, r.Err = n, e }) }
	return [][2]api.Record{
		{kind(0, 1), kind(-1, 1)}, {kind(-1, 1), kind(0, 1)}, {kind(-1, 1), kind(-2, 1)}, {kind(3, 0), kind(3, -1)},
		{kind(3, -7), kind(3, 0)}, {kind(3, math.MinInt), kind(3, -1)}, {kind(0, 0), kind(-1, -1)}, {kind(-1, 0), kind(0, -1)},
	}
}

// collision: by the words, in new memory, with all that was handed in as it was.
func collision(t *testing.T, a, b []api.Record) (x, y []byte, is bool) {
	t.Helper()
	wantX, wantY, want := collisionSays(a, b)
	room := func(l []api.Record) []api.Record {
		var out []api.Record
		for _, r := range l {
			out = append(out, roomy(r))
		}
		return out
	}
	c, d := room(a), room(b)
	for range 2 {
		x, y, is = audit.Collision(c, d)
		if is != want || !bytes.Equal(x, wantX) || !bytes.Equal(y, wantY) {
			t.Fatalf("Collision: %x, %x, %t; not %x, %x, %t", x, y, is, wantX, wantY, want)
		}
		if spoil(x); !bytes.Equal(y, wantY) {
			t.Fatal("Collision: the two texts share their memory")
		}
		spoil(y)
		for i, r := range c {
			if !kept(r, a[i]) {
				t.Fatalf("Collision: record %d of the first was changed", i)
			}
		}
		for i, r := range d {
			if !kept(r, b[i]) {
				t.Fatalf("Collision: record %d of the second was changed", i)
			}
		}
	}
	return wantX, wantY, want
}

func nothing(t *testing.T, what string, a, b []api.Record) {
	t.Helper()
	for _, pair := range [][2][]api.Record{{a, b}, {b, a}} {
		if x, y, is := collision(t, pair[0], pair[1]); is || len(x) != 0 || len(y) != 0 {
			t.Errorf("%s: %x, %x, %t", what, x, y, is)
		}
	}
}

// found: the texts of r and s, of a's and b's place.
func found(t *testing.T, what string, a, b []api.Record, r, s api.Record) {
	t.Helper()
	for range 2 {
		x, y, is := collision(t, a, b)
		if !is || !bytes.Equal(x, showSays(r)) || !bytes.Equal(y, showSays(s)) {
			t.Errorf("%s: %x, %x, %t", what, x, y, is)
		}
		a, b, r, s = b, a, s, r
	}
}

func TestCollisionOfNothing(t *testing.T) {
	for _, l := range [][]api.Record{nil, {}, grown(1, "a"), grown(5, "a")} {
		nothing(t, "none and some", nil, l)
		nothing(t, "none and some", []api.Record{}, l)
	}
}

func TestCollisionOfTheSame(t *testing.T) {
	for _, n := range []int{1, 2, 3, 50} {
		l := grown(n, "a")
		nothing(t, "a log and itself", l, l)
		nothing(t, "a log and its copy", l, copies(l))
		for i := range n {
			nothing(t, "a log and its tail", l, copies(l[i:]))
			nothing(t, "a log and its front", l, copies(l[:i]))
		}
	}
	for _, r := range append(rightRecords(), twins()[1][0]) {
		nothing(t, words(r), []api.Record{r}, []api.Record{copied(r)})
	}
	r := api.Record{Seq: 1, Sum: []byte{}, Prev: []byte{}}
	nothing(t, "nil and empty lists", []api.Record{{Seq: 1}}, []api.Record{r})
}

func TestCollisionOfTwins(t *testing.T) {
	for i, p := range twins() {
		found(t, fmt.Sprint(i), []api.Record{p[0]}, []api.Record{p[1]}, p[0], p[1])
	}
}

// Twins at each place, with the same behind them and anything ahead, in logs of different lengths.
func TestCollisionAtEachPlace(t *testing.T) {
	for _, p := range twins() {
		for tail := range 6 {
			for ahead := range 4 {
				for other := range 4 {
					end := grown(tail, "end")
					a := slices.Concat(grown(ahead, "a"), []api.Record{p[0]}, end)
					b := slices.Concat(grown(other, "b"), []api.Record{p[1]}, copies(end))
					found(t, fmt.Sprintf("%d behind, %d and %d ahead", tail, ahead, other), a, b, p[0], p[1])
				}
			}
		}
	}
}

// The last of several is told: those ahead of it are not looked at.
func TestCollisionTellsTheLast(t *testing.T) {
	p, q := twins()[0], twins()[3]
	found(t, "two of them", []api.Record{q[0], p[0]}, []api.Record{q[1], p[1]}, p[0], p[1])
	found(t, "two of them", []api.Record{p[0], whole(), q[0], whole()}, []api.Record{p[1], whole(), q[1], whole()}, q[0], q[1])
	found(t, "ahead of it others", []api.Record{{Who: "a"}, p[0], whole()}, []api.Record{{Who: "b"}, p[1], whole()}, p[0], p[1])
}

// What lies ahead of two that are neither the same nor of one Digest is not told.
func TestCollisionEndsOnTheWay(t *testing.T) {
	p := twins()[0]
	for tail := range 4 {
		for between := range 3 {
			end, mid := grown(tail, "end"), grown(between, "mid")
			a := slices.Concat([]api.Record{p[0]}, mid, []api.Record{{Who: "a"}}, end)
			b := slices.Concat([]api.Record{p[1]}, mid, []api.Record{{Who: "b"}}, end)
			nothing(t, fmt.Sprintf("%d between, %d behind", between, tail), a, b)
			// Without those two it is told.
			a, b = slices.Concat([]api.Record{p[0]}, mid, end), slices.Concat([]api.Record{p[1]}, mid, end)
			found(t, "without them", a, b, p[0], p[1])
		}
	}
}

// It is gone from behind, not from the front: what is at one place from the front is not held together.
func TestCollisionIsFromBehind(t *testing.T) {
	p := twins()[0]
	nothing(t, "at one place from the front", []api.Record{p[0], {Who: "x"}}, []api.Record{p[1]})
	found(t, "at one place from behind", []api.Record{{Who: "x"}, p[0]}, []api.Record{p[1]}, p[0], p[1])
	nothing(t, "beyond the shorter one", []api.Record{p[0], whole()}, []api.Record{whole()})
}

func TestCollisionOfLogsThatDiffer(t *testing.T) {
	const n = 7
	for name, change := range fields() {
		for at := range n {
			var l []api.Record
			for range n {
				l = append(l, nextSays(l, whole()))
			}
			x := copies(l)
			if len(x[at].Prev) == 0 && (name == "Prev's first" || name == "Prev's last") {
				continue
			}
			change(&x[at])
			nothing(t, fmt.Sprintf("%s of record %d", name, at), l, x)
			nothing(t, fmt.Sprintf("%s of record %d, mended", name, at), l, mended(x, 0))
		}
	}
	for i := range n {
		for j := range n {
			nothing(t, "two logs", grown(i, "a"), grown(j, "b"))
			nothing(t, "one log at two lengths", grown(i, "a"), grown(j, "a"))
		}
	}
}

func TestSameOfEachField(t *testing.T) {
	same := func(what string, a, b api.Record, want bool) {
		t.Helper()
		c, d := roomy(a), roomy(b)
		if got, back := audit.Same(c, d), audit.Same(d, c); got != want || back != want {
			t.Errorf("%s: %t, and %t the other way round", what, got, back)
		}
		if !kept(c, a) || !kept(d, b) {
			t.Errorf("%s: one was changed", what)
		}
	}
	for _, r := range rightRecords() {
		same(words(r), r, copied(r), true)
	}
	for name, r := range wrongRecords() {
		same(name, r, copied(r), true)
	}
	for name, change := range fields() {
		r := with(func(r *api.Record) { change(r) })
		same(name, r, whole(), false)
		same(name, r, copied(r), true)
	}
	for i, p := range twins() {
		same(fmt.Sprintf("twins %d", i), p[0], p[1], false)
	}
	same("a nil Sum and an empty one", with(func(r *api.Record) { r.Sum = nil }), with(func(r *api.Record) { r.Sum = []byte{} }), true)
	same("a nil Prev and an empty one", with(func(r *api.Record) { r.Prev = nil }), with(func(r *api.Record) { r.Prev = []byte{} }), true)
	same("a Sum, and its first 31", whole(), with(func(r *api.Record) { r.Sum = r.Sum[:31] }), false)
	same("a Prev, and one more", whole(), with(func(r *api.Record) { r.Prev = append(r.Prev, 0) }), false)
	same("Bucket and Key exchanged", with(func(r *api.Record) { r.Bucket, r.Key = r.Key, r.Bucket }), whole(), false)
	same("Sum and Prev exchanged", with(func(r *api.Record) { r.Sum, r.Prev = r.Prev, r.Sum }), whole(), false)
	same("Seq and Clock exchanged", with(func(r *api.Record) { r.Seq, r.Clock = r.Clock, r.Seq }), whole(), false)
}

// Each byte of each list, each bit of each number.
func TestSameOfEachBit(t *testing.T) {
	for bit := range 256 {
		for name, r := range map[string]api.Record{
			"Sum":     with(func(r *api.Record) { r.Sum[bit/8] ^= 1 << (bit % 8) }),
			"Prev":    with(func(r *api.Record) { r.Prev[bit/8] ^= 1 << (bit % 8) }),
			"Seq":     with(func(r *api.Record) { r.Seq ^= 1 << (bit % 64) }),
			"Clock":   with(func(r *api.Record) { r.Clock ^= 1 << (bit % 64) }),
			"Version": with(func(r *api.Record) { r.Version ^= 1 << (bit % 64) }),
			"Kind":    with(func(r *api.Record) { r.Kind ^= 1 << (bit % 64) }),
			"Err":     with(func(r *api.Record) { r.Err ^= 1 << (bit % 64) }),
		} {
			if audit.Same(r, whole()) || !audit.Same(r, copied(r)) {
				t.Errorf("%s, bit %d", name, bit)
			}
		}
	}
}

// Lists of chance, of few records of which some are twins: each way to end comes.
func TestCollisionsOfChance(t *testing.T) {
	c := rand.New(rand.NewSource(1404))
	few := []api.Record{whole(), with(func(r *api.Record) { r.Who = "bob" }), twins()[0][0], twins()[0][1]}
	list := func() []api.Record {
		var l []api.Record
		for range c.Intn(6) {
			l = append(l, few[c.Intn(len(few))])
		}
		return l
	}
	counts := map[bool]int{}
	for range 20000 {
		a, b := list(), list()
		if c.Intn(2) == 0 {
			end := list()
			a, b = slices.Concat(a, end), slices.Concat(b, end)
		}
		_, _, is := collision(t, a, b)
		counts[is]++
	}
	if counts[true] < 1000 || counts[false] < 1000 {
		t.Errorf("%v", counts)
	}
}
