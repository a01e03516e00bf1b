package lock_test

import (
	"math"
	"testing"

	"stele/api"
	"stele/lock"
)

// P1501

func TestRightByHand(t *testing.T) {
	none := api.Retain{}
	for _, c := range []struct {
		r    api.Retain
		now  uint64
		want bool
	}{
		{none, 0, true}, {none, 50, true}, {none, maxTime + 1, true}, {none, math.MaxUint64, true},
		{gov(0), 0, false}, {gov(1), 0, true}, {comp(0), 0, false}, {comp(1), 0, true},
		{gov(0), 50, false}, {gov(49), 50, false}, {gov(50), 50, false}, {gov(51), 50, true}, {gov(100), 50, true},
		{comp(0), 50, false}, {comp(49), 50, false}, {comp(50), 50, false}, {comp(51), 50, true}, {comp(100), 50, true},
		{gov(maxTime - 1), 50, true}, {gov(maxTime), 50, true}, {gov(maxTime + 1), 50, false}, {gov(math.MaxUint64), 50, false},
		{comp(maxTime - 1), 50, true}, {comp(maxTime), 50, true}, {comp(maxTime + 1), 50, false}, {comp(math.MaxUint64), 50, false},
		{comp(maxTime), maxTime - 1, true}, {comp(maxTime), maxTime, false}, {gov(maxTime + 1), maxTime, false}, {gov(math.MaxUint64), math.MaxUint64 - 1, false},
		{api.Retain{Until: 1}, 0, false}, {api.Retain{Until: 51}, 50, false}, {api.Retain{Until: 50}, 50, false}, {api.Retain{Until: 49}, 50, false}, {api.Retain{Until: math.MaxUint64}, 50, false},
		{api.Retain{Mode: -1}, 50, false}, {api.Retain{Mode: -1, Until: 100}, 50, false}, {api.Retain{Mode: -2, Until: 100}, 50, false},
		{api.Retain{Mode: 3}, 50, false}, {api.Retain{Mode: 3, Until: 100}, 50, false}, {api.Retain{Mode: math.MaxInt, Until: 100}, 50, false}, {api.Retain{Mode: math.MinInt}, 50, false},
	} {
		if got := lock.Right(c.r, c.now); got != c.want {
			t.Errorf("Right of %s at %d: %t", words(c.r), c.now, got)
		}
	}
}

func TestActiveByHand(t *testing.T) {
	for _, c := range []struct {
		r    api.Retain
		now  uint64
		want bool
	}{
		{api.Retain{}, 0, false}, {api.Retain{}, 50, false}, {api.Retain{Until: 100}, 50, false}, {api.Retain{Until: math.MaxUint64}, 0, false},
		{gov(100), 0, true}, {gov(100), 50, true}, {gov(100), 99, true}, {gov(100), 100, false}, {gov(100), 101, false}, {gov(100), math.MaxUint64, false},
		{comp(100), 0, true}, {comp(100), 50, true}, {comp(100), 99, true}, {comp(100), 100, false}, {comp(100), 101, false}, {comp(100), math.MaxUint64, false},
		{gov(0), 0, false}, {comp(0), 0, false}, {gov(1), 0, true}, {comp(1), 0, true},
		// Till when it was set does not matter here, MaxTime neither.
		{gov(maxTime + 1), maxTime, true}, {comp(maxTime + 1), maxTime + 1, false}, {comp(math.MaxUint64), maxTime + 1, true},
		{gov(math.MaxUint64), math.MaxUint64 - 1, true}, {comp(math.MaxUint64), math.MaxUint64, false}, {comp(1 << 63), 50, true}, {comp(50), 1 << 63, false},
		{api.Retain{Mode: -1, Until: 100}, 50, false}, {api.Retain{Mode: 3, Until: 100}, 50, false}, {api.Retain{Mode: 4, Until: 100}, 50, false},
		{api.Retain{Mode: math.MaxInt, Until: 100}, 50, false}, {api.Retain{Mode: math.MinInt, Until: 100}, 50, false},
	} {
		if got := lock.Active(c.r, c.now); got != c.want {
			t.Errorf("Active of %s at %d: %t", words(c.r), c.now, got)
		}
	}
}

func TestCoversByHand(t *testing.T) {
	none := api.Retain{}
	for _, c := range []struct {
		a, b api.Retain
		want bool
	}{
		// itself
		{none, none, true}, {gov(100), gov(100), true}, {comp(100), comp(100), true}, {api.Retain{Mode: -1, Until: 7}, api.Retain{Mode: -1, Until: 7}, true},
		// the end
		{gov(100), gov(99), true}, {gov(99), gov(100), false}, {comp(100), comp(99), true}, {comp(99), comp(100), false},
		{gov(math.MaxUint64), gov(1 << 63), true}, {comp(1 << 63), comp(math.MaxInt64), true}, {comp(math.MaxInt64), comp(1 << 63), false}, {gov(0), gov(math.MaxUint64), false},
		// the mode
		{comp(100), gov(100), true}, {gov(100), comp(100), false}, {comp(101), gov(100), true}, {gov(101), comp(100), false}, {comp(99), gov(100), false}, {gov(99), comp(100), false},
		// none
		{gov(0), none, true}, {comp(0), none, true}, {comp(100), none, true}, {none, gov(100), false}, {none, comp(100), false}, {none, gov(0), false}, {none, comp(0), false},
		{none, api.Retain{Until: 100}, true}, {api.Retain{Mode: -1}, api.Retain{Until: 100}, true}, {gov(1), api.Retain{Until: math.MaxUint64}, true}, {api.Retain{Until: 100}, gov(100), false}, {api.Retain{Until: 200}, comp(100), false},
		// numbers that are no modes are numbers yet
		{api.Retain{Mode: 3, Until: 100}, comp(100), true}, {comp(100), api.Retain{Mode: 3, Until: 100}, false}, {none, api.Retain{Mode: -1}, true}, {none, api.Retain{Mode: -1, Until: 1}, false},
		{api.Retain{Mode: -1}, none, true}, {api.Retain{Mode: -2, Until: 5}, api.Retain{Mode: -1, Until: 5}, false}, {api.Retain{Mode: math.MaxInt}, api.Retain{Mode: math.MinInt}, true}, {api.Retain{Mode: math.MinInt}, api.Retain{Mode: math.MaxInt}, false},
	} {
		if got := lock.Covers(c.a, c.b); got != c.want {
			t.Errorf("%s covers %s: %t", words(c.a), words(c.b), got)
		}
	}
}

func TestRightAndActiveOverTheEdges(t *testing.T) {
	for _, now := range someTimes() {
		for _, r := range retainsAt(now) {
			if got := lock.Right(r, now); got != rightSays(r, now) {
				t.Errorf("Right of %s at %d: %t", words(r), now, got)
			}
			if got := lock.Active(r, now); got != activeSays(r, now) {
				t.Errorf("Active of %s at %d: %t", words(r), now, got)
			}
		}
	}
}

func TestCoversOverTheEdges(t *testing.T) {
	for _, now := range []uint64{0, 100, maxTime} {
		for _, a := range retainsAt(now) {
			for _, b := range retainsAt(now) {
				if got := lock.Covers(a, b); got != coversSays(a, b) {
					t.Fatalf("%s covers %s: %t", words(a), words(b), got)
				}
			}
		}
	}
}

// What is right is active, or none; what was right once is active till it ends.
func TestWhatIsRightIsActiveTillItEnds(t *testing.T) {
	asked := 0
	for _, now := range someTimes() {
		for _, r := range retainsAt(now) {
			if !lock.Right(r, now) {
				continue
			}
			for _, at := range append(around(r.Until), now) {
				if at < now {
					continue
				}
				asked++
				if got := lock.Active(r, at); got != (at < r.Until) {
					t.Errorf("Active of %s at %d: %t", words(r), at, got)
				}
			}
		}
	}
	if asked < 100 {
		t.Errorf("only %d were asked", asked)
	}
}

// P1502

func TestDefaultByHand(t *testing.T) {
	none := api.Retain{}
	for _, c := range []struct {
		lock       bool
		mode, days int
		now        uint64
		want       api.Retain
	}{
		{true, 1, 1, 5, gov(5 + day)}, {true, 2, 1, 5, comp(5 + day)}, {true, 1, 1, 0, gov(day)}, {true, 2, 2, 100, comp(100 + 2*day)},
		{true, 1, 0, 5, none}, {true, 2, 0, 5, none}, {true, 1, -1, 5, none}, {true, 2, -1, 5, none}, {true, 1, math.MinInt, 5, none},
		{true, 2, maxDays - 1, 5, comp(5 + (maxDays-1)*day)}, {true, 1, maxDays, 5, gov(5 + maxDays*day)}, {true, 2, maxDays, 5, comp(5 + maxDays*day)},
		{true, 2, maxDays + 1, 5, comp(5 + (maxDays+1)*day)}, {true, 2, math.MaxInt, 5, comp(maxTime)}, {true, 1, math.MaxInt, 0, gov(maxTime)},
		// what is no mode
		{true, 0, 1, 5, none}, {true, -1, 1, 5, none}, {true, 3, 1, 5, none}, {true, 4, 1, 5, none}, {true, math.MinInt, 1, 5, none}, {true, math.MaxInt, 1, 5, none},
		// no Lock
		{false, 1, 1, 5, none}, {false, 2, 1, 5, none}, {false, 0, 1, 5, none}, {false, 2, maxDays, 5, none}, {false, 3, 1, 5, none},
		// so late that no day is left
		{true, 1, 1, maxTime - day, gov(maxTime)}, {true, 2, 1, maxTime - day - 1, comp(maxTime - 1)}, {true, 2, 1, maxTime - day + 1, comp(maxTime)},
		{true, 1, 1, maxTime - 1, gov(maxTime)}, {true, 1, 1, maxTime, none}, {true, 2, maxDays, maxTime, none}, {true, 2, math.MaxInt, maxTime, none},
		{true, 1, 1, maxTime + 1, none}, {true, 2, maxDays, maxTime + 1, none}, {true, 2, 1, math.MaxUint64, none}, {true, 1, 1, math.MaxUint64 - day, none}, {true, 1, 0, maxTime, none},
	} {
		b := api.Bucket{Lock: c.lock, Default: c.mode, Days: c.days}
		if got := lock.Default(b, c.now); got != c.want {
			t.Errorf("Default of %+v at %d: %s", b, c.now, words(got))
		}
	}
}

func someDays() []int {
	return []int{0, 1, 2, 30, maxDays - 1, maxDays, maxDays + 1, -1, -2, -maxDays, math.MinInt, math.MinInt + 1, math.MaxInt, math.MaxInt - 1, math.MaxInt / day, math.MaxInt/day + 1, math.MaxInt32, math.MinInt32, 2932896, 2932897}
}

func TestDefaultOverTheEdges(t *testing.T) {
	for _, now := range someTimes() {
		for _, mode := range someModes() {
			for _, days := range someDays() {
				for _, locked := range []bool{false, true} {
					b := api.Bucket{Lock: locked, Default: mode, Days: days}
					got := lock.Default(b, now)
					if got != defaultSays(b, now) {
						t.Errorf("Default of %+v at %d: %s", b, now, words(got))
					}
					if !lock.Right(got, now) {
						t.Errorf("Default of %+v at %d: %s, which can't be set", b, now, words(got))
					}
				}
			}
		}
	}
}

// What else a bucket has does not matter.
func TestDefaultOfWholeBuckets(t *testing.T) {
	for _, versioning := range []int{api.Off, api.Enabled, api.Suspended, -1} {
		for _, mfa := range []bool{false, true} {
			b := api.Bucket{Name: "b", Versioning: versioning, Mfa: mfa, Policy: "deny * * *", Expire: 3, Noncurrent: 4, Default: 2, Days: 1}
			if got := lock.Default(b, 5); got != (api.Retain{}) {
				t.Errorf("Default of %+v: %s", b, words(got))
			}
			b.Lock = true
			if got := lock.Default(b, 5); got != comp(5+day) {
				t.Errorf("Default of %+v: %s", b, words(got))
			}
		}
	}
}
