package expiry_test

import (
	"math"
	"math/rand"
	"slices"
	"testing"

	"stele/api"
	"stele/expiry"
)

// P1702

// The chapter's example: of a key's versions of day 0 and day 5 the first one
// is due at day 1, the second never.
func TestDueExample(t *testing.T) {
	l := []api.Version{ver("k", 1, 0), ver("k", 2, 5*day)}
	b := rules(api.Enabled, 0, 1)
	for _, now := range []uint64{0, 1, day - 1} {
		if got := expiry.Due(b, l, now); len(got) != 0 {
			t.Errorf("at %d: %v", now, got)
		}
	}
	for _, now := range []uint64{day, day + 1, 5 * day, 6 * day, 7 * day, maxTime, math.MaxUint64} {
		if got := expiry.Due(b, l, now); !slices.Equal(got, []uint64{1}) {
			t.Errorf("at %d: %v", now, got)
		}
	}
}

func TestDueByHand(t *testing.T) {
	k := func(order uint64) api.Version { return ver("k", order, 0) }
	x := func(order uint64) api.Version { return ver("x", order, 0) }
	two := []api.Version{k(1), k(2)}
	mixed := []api.Version{x(5), k(1), in("c", k(9)), k(4), x(2), k(3), in("c", k(8))}
	for i, c := range []struct {
		b    api.Bucket
		l    []api.Version
		now  uint64
		want []uint64
	}{
		// no versions, none of the bucket
		{rules(0, 1, 1), nil, day, nil}, {rules(0, 1, 1), []api.Version{}, day, nil}, {rules(0, 1, 1), []api.Version{in("c", k(1)), in("", k(2)), in("bb", k(3)), in("B", k(4))}, day, nil},
		// the latest goes by Expire, where Versioning is Off
		{rules(api.Off, 1, 0), []api.Version{k(1)}, day - 1, nil}, {rules(api.Off, 1, 0), []api.Version{k(1)}, day, []uint64{1}}, {rules(api.Off, 1, 0), []api.Version{k(1)}, day + 1, []uint64{1}},
		{rules(api.Enabled, 1, 0), []api.Version{k(1)}, day, nil}, {rules(api.Suspended, 1, 0), []api.Version{k(1)}, day, nil}, {rules(3, 1, 0), []api.Version{k(1)}, day, nil}, {rules(-1, 1, 0), []api.Version{k(1)}, day, nil},
		{rules(api.Off, 0, 1), []api.Version{k(1)}, day, nil}, {rules(api.Off, 0, 0), []api.Version{k(1)}, math.MaxUint64, nil}, {rules(api.Off, -1, -1), two, math.MaxUint64, nil},
		{rules(api.Off, 2, 0), []api.Version{k(1)}, 2*day - 1, nil}, {rules(api.Off, 2, 0), []api.Version{k(1)}, 2 * day, []uint64{1}},
		{rules(api.Off, 1, 0), []api.Version{marker(k(1))}, day, nil}, {rules(api.Off, 1, 0), []api.Version{k(1), marker(k(2))}, day, nil}, {rules(api.Off, 1, 0), []api.Version{marker(k(1)), k(2)}, day, []uint64{2}},
		// those that are not the latest go by Noncurrent, whatever Versioning is, markers too
		{rules(api.Off, 0, 1), two, day, []uint64{1}}, {rules(api.Enabled, 0, 1), two, day, []uint64{1}}, {rules(api.Suspended, 0, 1), two, day, []uint64{1}}, {rules(7, 0, 1), two, day, []uint64{1}},
		{rules(api.Enabled, 0, 1), two, day - 1, nil}, {rules(api.Enabled, 1, 0), two, day, nil}, {rules(api.Off, 1, 0), two, day, []uint64{2}}, {rules(api.Off, 1, 1), two, day, []uint64{1, 2}},
		{rules(api.Enabled, 0, 1), []api.Version{marker(k(1)), k(2)}, day, []uint64{1}}, {rules(api.Enabled, 0, 1), []api.Version{k(1), marker(k(2))}, day, []uint64{1}}, {rules(api.Enabled, 0, 1), []api.Version{marker(k(1)), marker(k(2))}, day, []uint64{1}},
		{rules(api.Off, 1, 1), []api.Version{marker(k(1)), marker(k(2))}, day, []uint64{1}},
		// the two rules have days of their own
		{rules(api.Off, 1, 2), two, day, []uint64{2}}, {rules(api.Off, 2, 1), two, day, []uint64{1}}, {rules(api.Off, 1, 2), two, 2 * day, []uint64{1, 2}},
		// what came later is due later
		{rules(api.Off, 1, 1), []api.Version{ver("k", 1, 10), ver("k", 2, 20), ver("k", 3, 30)}, day + 9, nil}, {rules(api.Off, 1, 1), []api.Version{ver("k", 1, 10), ver("k", 2, 20), ver("k", 3, 30)}, day + 10, []uint64{1}},
		{rules(api.Off, 1, 1), []api.Version{ver("k", 1, 10), ver("k", 2, 20), ver("k", 3, 30)}, day + 29, []uint64{1, 2}}, {rules(api.Off, 1, 1), []api.Version{ver("k", 1, 10), ver("k", 2, 20), ver("k", 3, 30)}, day + 30, []uint64{1, 2, 3}},
		// in the order in which they stand
		{rules(api.Enabled, 0, 1), mixed, day, []uint64{1, 2, 3}}, {rules(api.Off, 1, 0), mixed, day, []uint64{5, 4}}, {rules(api.Off, 1, 1), mixed, day, []uint64{5, 1, 4, 2, 3}},
		{rules(api.Enabled, 0, 1), []api.Version{k(9), k(8), k(7)}, day, []uint64{8, 7}}, {rules(api.Enabled, 0, 1), []api.Version{k(7), k(8), k(9)}, day, []uint64{7, 8}},
		// those of one Order: the first is the latest
		{rules(api.Enabled, 0, 1), []api.Version{k(2), k(2)}, day, []uint64{2}}, {rules(api.Off, 1, 0), []api.Version{k(2), k(2), k(2)}, day, []uint64{2}}, {rules(api.Off, 1, 0), []api.Version{marker(k(2)), k(2)}, day, nil},
		{rules(api.Off, 1, 0), []api.Version{k(2), marker(k(2))}, day, []uint64{2}}, {rules(api.Enabled, 0, 1), []api.Version{held(k(2)), k(2)}, day, []uint64{2}}, {rules(api.Enabled, 0, 1), []api.Version{k(2), held(k(2))}, day, nil},
		// holds, retention
		{rules(api.Off, 1, 1), []api.Version{held(k(1)), k(2)}, day, []uint64{2}}, {rules(api.Off, 1, 1), []api.Version{k(1), held(k(2))}, day, []uint64{1}}, {rules(api.Off, 1, 1), []api.Version{held(k(1))}, math.MaxUint64, nil},
		{rules(api.Off, 1, 1), []api.Version{under(k(1), 1, day+1), k(2)}, day, []uint64{2}}, {rules(api.Off, 1, 1), []api.Version{under(k(1), 2, day+1), k(2)}, day, []uint64{2}}, {rules(api.Off, 1, 1), []api.Version{k(1), under(k(2), 1, day+1)}, day, []uint64{1}},
		{rules(api.Off, 1, 1), []api.Version{under(k(1), 1, day), under(k(2), 2, day)}, day, []uint64{1, 2}}, {rules(api.Off, 1, 1), []api.Version{under(k(1), 1, 3*day), under(k(2), 2, 4*day)}, 3*day - 1, nil},
		{rules(api.Off, 1, 1), []api.Version{under(k(1), 1, 3*day), under(k(2), 2, 4*day)}, 3 * day, []uint64{1}}, {rules(api.Off, 1, 1), []api.Version{under(k(1), 1, 3*day), under(k(2), 2, 4*day)}, 4 * day, []uint64{1, 2}},
		{rules(api.Off, 1, 1), []api.Version{under(k(1), 0, 9*day), under(k(2), 3, 9*day)}, day, []uint64{1, 2}}, {rules(api.Off, 1, 1), []api.Version{held(under(k(1), 1, 1)), held(under(k(2), 2, 1))}, day, nil},
		// the end of what times there are
		{rules(api.Off, maxDays, 0), []api.Version{ver("k", 1, maxTime-1)}, maxTime - 1, nil}, {rules(api.Off, maxDays, 0), []api.Version{ver("k", 1, maxTime-1)}, maxTime, []uint64{1}},
		{rules(api.Off, 1, 0), []api.Version{ver("k", 1, maxTime)}, maxTime, []uint64{1}}, {rules(api.Off, 1, 0), []api.Version{ver("k", 1, maxTime)}, maxTime - 1, nil}, {rules(api.Off, 1, 0), []api.Version{ver("k", 1, maxTime+1)}, maxTime, nil},
		{rules(api.Off, 1, 0), []api.Version{ver("k", 1, maxTime+1)}, maxTime + 1, []uint64{1}}, {rules(api.Off, math.MaxInt, 0), []api.Version{k(1)}, maxTime - 1, nil}, {rules(api.Off, math.MaxInt, 0), []api.Version{k(1)}, maxTime, []uint64{1}},
		// empty names
		{api.Bucket{Expire: 1}, []api.Version{{Order: 7}, k(8)}, day, []uint64{7}}, {api.Bucket{Noncurrent: 1}, []api.Version{{Order: 7}, {Order: 8}, k(9)}, day, []uint64{7}},
	} {
		if got := expiry.Due(c.b, c.l, c.now); !slices.Equal(got, c.want) {
			t.Errorf("%d: Due at %d of %s: %v, not %v", i, c.now, showAll(c.l), got, c.want)
		}
	}
}

// One version, the latest and not, over all times, days, versionings, locks.
func TestDueOverTheEdges(t *testing.T) {
	asked := 0
	for _, time := range someTimes() {
		for _, days := range someDays() {
			for _, now := range append(around(laterSays(time, days)), someTimes()...) {
				for i := range 16 {
					v := ver("k", 2, time)
					v.Marker = i&1 == 1
					other := ver("k", uint64(i&2)+1, 0)
					l := []api.Version{v, other}
					if i&4 != 0 {
						l = []api.Version{other, v}
					}
					b := rules(api.Off, days, 0)
					if i&8 != 0 {
						b = rules(api.Off, 0, days)
					}
					if got, want := expiry.Due(b, l, now), dueSays(b, l, now); !slices.Equal(got, want) {
						t.Fatalf("Due at %d with Expire %d, Noncurrent %d of %s: %v, not %v", now, b.Expire, b.Noncurrent, showAll(l), got, want)
					}
					asked++
				}
			}
		}
	}
	if asked < 100000 {
		t.Errorf("asked %d times only", asked)
	}
}

func TestDueOfLocks(t *testing.T) {
	for _, versioning := range []int{api.Off, api.Enabled, api.Suspended, -1, 3, 1 << 8, 1 << 16, 1 << 32, math.MinInt, math.MaxInt} {
		for _, mode := range []int{0, 1, 2, 3, -1, math.MinInt, math.MaxInt, 1<<8 + 1, 1<<32 + 2} {
			for _, until := range []uint64{0, 1, day - 1, day, day + 1, 2 * day, maxTime, maxTime + 1, math.MaxUint64} {
				for i := range 16 {
					v := under(ver("k", 2, 0), mode, until)
					v.Hold = i&1 == 1
					l := []api.Version{v, ver("k", uint64(i&2)+1, 0)}
					b := rules(versioning, i>>2&1, i>>3&1)
					for _, now := range []uint64{0, day - 1, day, day + 1, 2*day - 1, 2 * day, maxTime, math.MaxUint64 - 1, math.MaxUint64} {
						if got, want := expiry.Due(b, l, now), dueSays(b, l, now); !slices.Equal(got, want) {
							t.Fatalf("Due at %d, versioning %d, Expire %d, Noncurrent %d of %s: %v, not %v", now, versioning, b.Expire, b.Noncurrent, showAll(l), got, want)
						}
					}
				}
			}
		}
	}
}

// All lists of up to four versions of two buckets' two keys, few Orders, markers
// and holds.
func TestDueOfAllRows(t *testing.T) {
	var some []api.Version
	for i := range 32 {
		some = append(some, api.Version{Bucket: "bc"[i&1 : i&1+1], Key: "kx"[i>>1&1 : i>>1&1+1], Order: uint64(i >> 2 & 1), Marker: i>>3&1 == 1, Hold: i>>4 == 1})
	}
	buckets := []api.Bucket{rules(api.Off, 1, 0), rules(api.Enabled, 0, 1), rules(api.Off, 1, 1)}
	most := 3
	if testing.Short() {
		most = 2
	}
	var walk func(l []api.Version)
	walk = func(l []api.Version) {
		for _, b := range buckets {
			if got, want := expiry.Due(b, l, day), dueSays(b, l, day); !slices.Equal(got, want) {
				t.Fatalf("Due with Expire %d, Noncurrent %d of %s: %v, not %v", b.Expire, b.Noncurrent, showAll(l), got, want)
			}
		}
		if len(l) < most {
			for _, v := range some {
				walk(append(slices.Clone(l), v))
			}
		}
	}
	walk(nil)
}

func TestDueOfChance(t *testing.T) {
	c := rand.New(rand.NewSource(1702))
	due := 0
	for range 20000 {
		now := uint64(c.Intn(10 * day))
		b, l := anyBucket(c), anyList(c, now)
		got, want := expiry.Due(b, l, now), dueSays(b, l, now)
		if !slices.Equal(got, want) {
			t.Fatalf("Due at %d, versioning %d, Expire %d, Noncurrent %d of %s: %v, not %v", now, b.Versioning, b.Expire, b.Noncurrent, short(showAll(l)), got, want)
		}
		due += len(got)
	}
	if due < 5000 {
		t.Errorf("%d due only", due)
	}
}

// Nothing else of the bucket matters, nor of the versions, nor what other
// buckets have.
func TestDueOfTheRest(t *testing.T) {
	c := rand.New(rand.NewSource(17020))
	for range 3000 {
		now := uint64(c.Intn(10 * day))
		b, l := anyBucket(c), anyList(c, now)
		want := expiry.Due(b, l, now)
		other := api.Bucket{Name: b.Name, Versioning: b.Versioning, Expire: b.Expire, Noncurrent: b.Noncurrent}
		var own []api.Version
		for _, v := range l {
			if v.Bucket == b.Name {
				v.Id, v.Data = c.Uint64(), []byte("other data")
				own = append(own, v)
			}
		}
		if got := expiry.Due(other, own, now); !slices.Equal(got, want) {
			t.Fatalf("Due at %d of %s: %v, not %v", now, short(showAll(l)), got, want)
		}
	}
}

// What is handed in stays as it is, its spare room is not looked at, and each
// answer is new memory.
func TestDueIsNewMemory(t *testing.T) {
	c := rand.New(rand.NewSource(17021))
	for range 2000 {
		now := uint64(c.Intn(10 * day))
		b, l := anyBucket(c), anyList(c, now)
		r := roomy(l)
		before := whole(r)
		want := dueSays(b, l, now)
		first, second := expiry.Due(b, r, now), expiry.Due(b, r, now)
		for i := range first[:cap(first)] {
			first[:cap(first)][i] = 77777
		}
		if !slices.Equal(second, want) || whole(r) != before {
			t.Fatalf("Due at %d of %s: %v, not %v; left %s", now, short(before), second, want, short(whole(r)))
		}
		if again := expiry.Due(b, r, now); !slices.Equal(again, want) {
			t.Fatalf("Due at %d of %s again: %v, not %v", now, short(before), again, want)
		}
		for i := range r[:cap(r)] {
			r[:cap(r)][i] = api.Version{}
		}
		if !slices.Equal(second, want) {
			t.Fatalf("what was due at %d is %v now, not %v", now, second, want)
		}
	}
}
