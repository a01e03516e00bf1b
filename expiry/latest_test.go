package expiry_test

import (
	"math"
	"math/rand"
	"slices"
	"strings"
	"testing"

	"stele/api"
	"stele/expiry"
)

// P1701

func TestLatestByHand(t *testing.T) {
	k := func(order uint64) api.Version { return ver("k", order, 0) }
	x := func(order uint64) api.Version { return ver("x", order, 0) }
	for _, c := range []struct {
		l           []api.Version
		bucket, key string
		want        int
	}{
		// none
		{nil, "b", "k", -1}, {[]api.Version{}, "b", "k", -1}, {nil, "", "", -1},
		{[]api.Version{k(1)}, "b", "x", -1}, {[]api.Version{k(1)}, "c", "k", -1}, {[]api.Version{k(1)}, "", "k", -1}, {[]api.Version{k(1)}, "b", "", -1}, {[]api.Version{k(1)}, "", "", -1},
		{[]api.Version{k(1)}, "k", "b", -1}, {[]api.Version{k(1)}, "B", "k", -1}, {[]api.Version{k(1)}, "b", "K", -1}, {[]api.Version{k(1)}, "b", "kk", -1}, {[]api.Version{k(1)}, "b", "k ", -1},
		// one
		{[]api.Version{k(1)}, "b", "k", 0}, {[]api.Version{k(0)}, "b", "k", 0}, {[]api.Version{k(math.MaxUint64)}, "b", "k", 0},
		{[]api.Version{x(1), k(0), x(2)}, "b", "k", 1}, {[]api.Version{in("c", k(9)), k(1)}, "b", "k", 1}, {[]api.Version{k(1), in("c", k(9))}, "b", "k", 0},
		// several, in rising, falling and mixed order
		{[]api.Version{k(1), k(2), k(3)}, "b", "k", 2}, {[]api.Version{k(3), k(2), k(1)}, "b", "k", 0}, {[]api.Version{k(1), k(3), k(2)}, "b", "k", 1}, {[]api.Version{k(2), k(1), k(3)}, "b", "k", 2},
		{[]api.Version{k(1), x(5), k(4), x(2), k(3)}, "b", "k", 2}, {[]api.Version{k(1), x(5), k(4), x(2), k(3)}, "b", "x", 1},
		{[]api.Version{k(1), in("c", k(5)), k(4), in("c", k(6))}, "b", "k", 2}, {[]api.Version{k(1), in("c", k(5)), k(4), in("c", k(6))}, "c", "k", 3},
		{[]api.Version{k(0), k(math.MaxUint64), k(1 << 63)}, "b", "k", 1}, {[]api.Version{k(1 << 63), k(math.MaxInt64)}, "b", "k", 0}, {[]api.Version{k(math.MaxUint32), k(1 << 32)}, "b", "k", 1},
		// those of one Order: the first
		{[]api.Version{k(2), k(2)}, "b", "k", 0}, {[]api.Version{k(0), k(0), k(0)}, "b", "k", 0}, {[]api.Version{k(1), k(2), k(2), k(1)}, "b", "k", 1}, {[]api.Version{x(2), k(2), in("c", k(2)), k(2)}, "b", "k", 1},
		{[]api.Version{k(math.MaxUint64), k(math.MaxUint64)}, "b", "k", 0}, {[]api.Version{k(2), k(3), k(2), k(3)}, "b", "k", 1},
		// a marker is one as well, held ones, ones under retention
		{[]api.Version{k(1), marker(k(2))}, "b", "k", 1}, {[]api.Version{marker(k(2)), k(1)}, "b", "k", 0}, {[]api.Version{marker(k(2)), k(2)}, "b", "k", 0}, {[]api.Version{k(1), held(k(3)), under(k(4), 2, 9)}, "b", "k", 2},
		// empty names are names too
		{[]api.Version{in("", k(1))}, "", "k", 0}, {[]api.Version{ver("", 1, 0)}, "b", "", 0}, {[]api.Version{k(1), {}, {Order: 1}}, "", "", 2}, {[]api.Version{{}}, "", "", 0},
	} {
		if got := expiry.Latest(c.l, c.bucket, c.key); got != c.want {
			t.Errorf("Latest of %q %q in %s: %d, not %d", c.bucket, c.key, showAll(c.l), got, c.want)
		}
	}
}

// All lists of up to four versions of few names and Orders.
func TestLatestOfAllRows(t *testing.T) {
	var some []api.Version
	for _, bucket := range []string{"", "b", "c"} {
		for _, key := range []string{"", "k"} {
			for order := range uint64(3) {
				some = append(some, api.Version{Bucket: bucket, Key: key, Order: order})
			}
		}
	}
	var walk func(l []api.Version)
	walk = func(l []api.Version) {
		for _, bucket := range []string{"", "b", "c", "d"} {
			for _, key := range []string{"", "k", "x"} {
				if got, want := expiry.Latest(l, bucket, key), latestSays(l, bucket, key); got != want {
					t.Fatalf("Latest of %q %q in %s: %d, not %d", bucket, key, showAll(l), got, want)
				}
			}
		}
		if len(l) < 4 {
			for _, v := range some {
				walk(append(slices.Clone(l), v))
			}
		}
	}
	walk(nil)
}

// Names that are the same one behind the other, but parted elsewhere, are
// others, whatever stands between.
func TestLatestPartsNames(t *testing.T) {
	names := []string{"", "a", "b", "ab", "ba", "/", "a/", "/a", "a/b", "\x00", "a\x00", "\x00a", "é", "\xff", strings.Repeat("a", 100)}
	var l []api.Version
	for _, bucket := range names {
		for _, key := range names {
			l = append(l, api.Version{Bucket: bucket, Key: key, Order: uint64(len(l) % 7)})
		}
	}
	for i, v := range l {
		if got := expiry.Latest(l, v.Bucket, v.Key); got != i {
			t.Errorf("Latest of %q %q: %d, not %d", v.Bucket, v.Key, got, i)
		}
		rest := slices.Delete(slices.Clone(l), i, i+1)
		if got := expiry.Latest(rest, v.Bucket, v.Key); got != -1 {
			t.Errorf("Latest of %q %q without it: %d", v.Bucket, v.Key, got)
		}
	}
}

// Nothing but names and Orders matters: no Id, Time, marker, data, retention or
// hold.
func TestLatestOfTheRest(t *testing.T) {
	c := rand.New(rand.NewSource(1701))
	for range 3000 {
		l := anyList(c, uint64(c.Intn(10*day)))
		for i := range l {
			l[i].Id, l[i].Data = c.Uint64(), []byte("data")
		}
		var bare []api.Version
		for _, v := range l {
			bare = append(bare, api.Version{Bucket: v.Bucket, Key: v.Key, Order: v.Order})
		}
		for _, key := range []string{"k", "l", "m", "", "x"} {
			got, want := expiry.Latest(l, "b", key), latestSays(bare, "b", key)
			if got != want || expiry.Latest(bare, "b", key) != want {
				t.Fatalf("Latest of %q in %s: %d, not %d", key, short(showAll(l)), got, want)
			}
		}
	}
}

// What is handed in stays as it is; its spare room is not looked at.
func TestLatestLeavesAll(t *testing.T) {
	for _, l := range [][]api.Version{nil, {}, {ver("k", 1, 0)}, {ver("k", 1, 0), ver("k", 3, 0), ver("k", 2, 0)}, {ver("x", 4, 0)}} {
		r := roomy(l)
		before := whole(r)
		if got, want := expiry.Latest(r, "b", "k"), latestSays(l, "b", "k"); got != want {
			t.Errorf("Latest in %s: %d, not %d", showAll(l), got, want)
		}
		if after := whole(r); after != before {
			t.Errorf("%s is %s now", before, after)
		}
	}
}

func TestLatestOfMany(t *testing.T) {
	var l []api.Version
	for i := range 20000 {
		l = append(l, ver("k"+string(rune('a'+i%3)), uint64(i*7919%20011), 0))
	}
	for _, key := range []string{"ka", "kb", "kc", "kd"} {
		want := -1
		for i, v := range l {
			if v.Key == key && (want < 0 || v.Order > l[want].Order) {
				want = i
			}
		}
		if got := expiry.Latest(l, "b", key); got != want {
			t.Errorf("Latest of %s: %d, not %d", key, got, want)
		}
	}
}
