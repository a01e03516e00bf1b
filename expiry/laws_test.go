package expiry_test

import (
	"math"
	"math/rand"
	"slices"
	"testing"

	"stele/api"
	"stele/expiry"
	"stele/lock"
)

// P1703

// numbered: with an Order for each version that no other one has.
func numbered(c *rand.Rand, l []api.Version) []api.Version {
	for i, order := range c.Perm(len(l)) {
		l[i].Order = uint64(order)
	}
	return l
}

// moments: rising times at which something may change, and some in between.
func moments(c *rand.Rand, b api.Bucket, l []api.Version) []uint64 {
	all := []uint64{0, maxTime, math.MaxUint64, uint64(c.Intn(20 * day))}
	for _, v := range l {
		all = slices.Concat(all, around(v.R.Until), around(laterSays(v.Time, b.Expire)), around(laterSays(v.Time, b.Noncurrent)))
	}
	slices.Sort(all)
	return slices.Compact(all)
}

// locked: is that version locked or held at now?
func locked(l []api.Version, order, now uint64) bool {
	i := slices.IndexFunc(l, func(v api.Version) bool { return v.Order == order })
	return i < 0 || l[i].Hold || lock.Active(l[i].R, now) || lock.MayDelete(l[i], now, false) != api.OK
}

func TestNothingLockedIsDueAndDueStaysDue(t *testing.T) {
	c := rand.New(rand.NewSource(1703))
	stayed, kept := 0, 0
	for range 4000 {
		b, l := anyBucket(c), numbered(c, anyList(c, uint64(c.Intn(10*day))))
		var before []uint64
		for _, now := range moments(c, b, l) {
			due := expiry.Due(b, l, now)
			for _, order := range due {
				if locked(l, order, now) {
					t.Fatalf("%d is due at %d, in %s", order, now, short(showAll(l)))
				}
			}
			for _, order := range before {
				if !slices.Contains(due, order) {
					t.Fatalf("%d is due no more at %d, in %s", order, now, short(showAll(l)))
				}
				stayed++
			}
			before = due
		}
		for _, v := range l {
			if v.Hold && v.Bucket == b.Name {
				kept++
			}
		}
	}
	if stayed < 10000 || kept < 1000 {
		t.Errorf("%d stayed due, %d were held", stayed, kept)
	}
}

// A lock or a hold on each version in turn takes just that one from what is
// due.
func TestLockTakesOneFromTheDue(t *testing.T) {
	c := rand.New(rand.NewSource(17030))
	taken := 0
	for range 3000 {
		now := uint64(c.Intn(10 * day))
		b, l := anyBucket(c), numbered(c, anyList(c, now))
		due := expiry.Due(b, l, now)
		for i := range l {
			for _, kept := range []api.Version{held(l[i]), under(l[i], api.Governance, now+1), under(l[i], api.Compliance, now+1), under(l[i], api.Compliance, math.MaxUint64)} {
				m := slices.Clone(l)
				m[i] = kept
				want := slices.DeleteFunc(slices.Clone(due), func(order uint64) bool { return order == l[i].Order })
				if got := expiry.Due(b, m, now); !slices.Equal(got, want) {
					t.Fatalf("Due at %d of %s: %v, not %v", now, short(showAll(m)), got, want)
				}
				taken += len(due) - len(want)
			}
		}
	}
	if taken < 3000 {
		t.Errorf("%d taken only", taken)
	}
}

func TestWithoutRulesNothingIsDue(t *testing.T) {
	c := rand.New(rand.NewSource(17031))
	for range 3000 {
		b, l := anyBucket(c), anyList(c, uint64(c.Intn(10*day)))
		b.Expire, b.Noncurrent = -c.Intn(2)*c.Intn(maxDays), -c.Intn(2)*c.Intn(maxDays)
		if c.Intn(5) == 0 {
			b.Expire, b.Noncurrent = math.MinInt, math.MinInt
		}
		for _, now := range moments(c, b, l) {
			if got := expiry.Due(b, l, now); len(got) != 0 {
				t.Fatalf("Due at %d of %s: %v", now, short(showAll(l)), got)
			}
		}
	}
}

// Without Expire each key keeps its latest, whatever the time.
func TestNoncurrentLeavesTheLatest(t *testing.T) {
	c := rand.New(rand.NewSource(17032))
	for range 3000 {
		b, l := anyBucket(c), numbered(c, anyList(c, uint64(c.Intn(10*day))))
		b.Expire = 0
		due := expiry.Due(b, l, math.MaxUint64)
		for _, v := range l {
			last := l[expiry.Latest(l, v.Bucket, v.Key)]
			if slices.Contains(due, last.Order) {
				t.Fatalf("the latest, %s, is due in %s", show(last), short(showAll(l)))
			}
		}
	}
}
