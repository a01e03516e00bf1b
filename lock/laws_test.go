package lock_test

import (
	"math/rand"
	"testing"

	"stele/api"
	"stele/lock"
)

// P1505

// kept: does the law hold of what is there at now, where the retention was set
// at some time? True also where the law has nothing to say.
func kept(t *testing.T, is, set api.Retain, now uint64) bool {
	t.Helper()
	if set.Mode != api.Compliance || now >= set.Until {
		return true
	}
	ok := lock.Covers(is, set)
	for i := range 4 {
		v := api.Version{R: is, Hold: i%2 == 1}
		ok = ok && lock.MayDelete(v, now, i/2 == 1) != api.OK
	}
	if !ok {
		t.Errorf("%s was set, and at %d there is %s", words(set), now, words(is))
	}
	return ok
}

// moment: what is there at a time, and which compliance retentions were set
// till then, a bit for each Until.
type moment struct {
	now uint64
	is  api.Retain
	set uint64
}

// then: the moment behind it, at now, when to was asked for.
func (m moment) then(to api.Retain, now uint64, bypass bool) moment {
	m.now = now
	if lock.MaySet(m.is, to, now, bypass) != api.OK {
		return m
	}
	m.is = to
	if to.Mode == api.Compliance {
		m.set |= 1 << to.Until
	}
	return m
}

// All moments that rows of any length come to, of short times, are gone to:
// whatever is there at first, whatever is asked for at whatever rising times,
// with bypass and without.
func TestRowsOfAnyLength(t *testing.T) {
	const last = 6
	var asked []api.Retain
	for mode := -1; mode <= 3; mode++ {
		for until := range uint64(last + 2) {
			asked = append(asked, api.Retain{Mode: mode, Until: until})
		}
	}
	seen := map[moment]bool{}
	var work []moment
	visit := func(m moment) {
		if !seen[m] {
			seen[m] = true
			work = append(work, m)
		}
	}
	for _, first := range asked {
		visit(moment{is: first})
	}
	ruled := 0
	for len(work) > 0 {
		m := work[len(work)-1]
		work = work[:len(work)-1]
		for until := range uint64(last + 2) {
			if m.set>>until&1 == 0 {
				continue
			}
			if !kept(t, m.is, comp(until), m.now) {
				return
			}
			if m.now < until {
				ruled++
			}
		}
		for now := m.now; now <= last; now++ {
			for _, to := range asked {
				visit(m.then(to, now, false))
				visit(m.then(to, now, true))
			}
		}
	}
	if len(seen) < 1000 || ruled < 1000 {
		t.Errorf("%d moments, of %d of which the law speaks", len(seen), ruled)
	}
}

// asksFor: a retention of chance, about what is there, or any.
func asksFor(c *rand.Rand, is api.Retain, now uint64) api.Retain {
	l := untilsAt(now)
	if is.Until > 0 {
		l = append(l, around(is.Until)...)
	}
	r := api.Retain{Mode: c.Intn(5) - 1, Until: l[c.Intn(len(l))]}
	switch c.Intn(6) {
	case 0:
		return api.Retain{}
	case 1:
		return lock.Default(api.Bucket{Lock: true, Default: c.Intn(3), Days: c.Intn(5) - 1}, now)
	case 2:
		r.Until = now + uint64(c.Intn(200))
	case 3:
		return api.Retain{Mode: r.Mode, Until: is.Until}
	}
	return r
}

// Rows of chance over all times, the time held against each retention that was
// set, at each second behind it at which something changes.
func TestRowsOfChance(t *testing.T) {
	c := rand.New(rand.NewSource(1505))
	ruled, lifted, refused := 0, 0, 0
	for range 4000 {
		now := uint64(c.Intn(100))
		is := lock.Default(api.Bucket{Lock: true, Default: c.Intn(3), Days: c.Intn(3)}, now)
		set := []api.Retain{is}
		for range c.Intn(30) {
			to, bypass := asksFor(c, is, now), c.Intn(2) == 0
			switch lock.MaySet(is, to, now, bypass) {
			case api.OK:
				if bypass && lock.MaySet(is, to, now, false) != api.OK {
					lifted++
				}
				is = to
				set = append(set, to)
			case api.ErrLocked:
				refused++
			}
			for _, s := range set {
				if s.Mode == api.Compliance && now < s.Until {
					ruled++
				}
				for _, at := range append(around(is.Until), now) {
					if at >= now && !kept(t, is, s, at) {
						return
					}
				}
			}
			now = passed(c, is, now)
		}
	}
	if ruled < 10000 || lifted < 1000 || refused < 1000 {
		t.Errorf("ruled %d, lifted %d, refused %d", ruled, lifted, refused)
	}
}

// passed: a time not below now; often one about the end of what is there.
func passed(c *rand.Rand, is api.Retain, now uint64) uint64 {
	switch c.Intn(8) {
	case 0:
		l := around(is.Until)
		return max(now, l[c.Intn(len(l))])
	case 1:
		return now + uint64(c.Intn(3))*day
	case 2, 3:
		return now + uint64(c.Intn(20))
	}
	return now
}

// What a compliance retention of a bucket's default keeps can't be taken away
// while it lasts, and goes then.
func TestDefaultsAreKept(t *testing.T) {
	for _, now := range []uint64{0, 5, maxTime - 1} {
		r := lock.Default(api.Bucket{Lock: true, Default: api.Compliance, Days: 1}, now)
		if r.Mode != api.Compliance {
			t.Fatalf("Default at %d: %s", now, words(r))
		}
		for _, at := range []uint64{now, r.Until - 1, r.Until} {
			for _, bypass := range []bool{false, true} {
				want := api.ErrLocked
				if at == r.Until {
					want = api.OK
				}
				if got := lock.MaySet(r, api.Retain{}, at, bypass); got != want {
					t.Errorf("%s taken away at %d, bypass %t: %d", words(r), at, bypass, got)
				}
				if got := lock.MayDelete(api.Version{R: r}, at, bypass); got != want {
					t.Errorf("a version under %s at %d, bypass %t: %d", words(r), at, bypass, got)
				}
			}
		}
	}
}
