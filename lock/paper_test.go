package lock_test

import (
	"fmt"
	"math"
	"math/big"

	"stele/api"
)

// What the document's words say, on paper, and the edges that it names.

const (
	maxTime = 253402300799
	maxDays = 36500
	day     = 86400
)

// retentionSays: is Mode one of the two modes?
func retentionSays(r api.Retain) bool {
	switch r.Mode {
	case 1, 2:
		return true
	}
	return false
}

func rightSays(r api.Retain, now uint64) bool {
	if !retentionSays(r) {
		return r == api.Retain{}
	}
	if r.Until <= now {
		return false
	}
	return r.Until <= maxTime
}

func activeSays(r api.Retain, now uint64) bool {
	if now >= r.Until {
		return false
	}
	return retentionSays(r)
}

func coversSays(a, b api.Retain) bool {
	if b.Mode == 0 {
		return true
	}
	return !(a.Mode < b.Mode) && !(a.Until < b.Until)
}

// laterSays: chapter 3's Later, in numbers without an end.
func laterSays(t uint64, days int) uint64 {
	if t > maxTime || days < 0 {
		return t
	}
	sum := new(big.Int).Mul(big.NewInt(int64(days)), big.NewInt(day))
	sum.Add(sum, new(big.Int).SetUint64(t))
	if sum.Cmp(big.NewInt(maxTime)) > 0 {
		return maxTime
	}
	return sum.Uint64()
}

func defaultSays(b api.Bucket, now uint64) api.Retain {
	r := api.Retain{Mode: b.Default, Until: laterSays(now, b.Days)}
	if b.Lock && retentionSays(r) && r.Until > now {
		return r
	}
	return api.Retain{}
}

func deleteSays(v api.Version, now uint64, bypass bool) api.Errno {
	switch {
	case v.Hold:
		return api.ErrHold
	case !activeSays(v.R, now):
		return api.OK
	case v.R.Mode == 2:
		return api.ErrLocked
	case !bypass:
		return api.ErrLocked
	}
	return api.OK
}

func setSays(old, to api.Retain, now uint64, bypass bool) api.Errno {
	switch {
	case !rightSays(to, now):
		return api.ErrState
	case !activeSays(old, now):
		return api.OK
	case coversSays(to, old):
		return api.OK
	case old.Mode == 2:
		return api.ErrLocked
	case !bypass:
		return api.ErrLocked
	}
	return api.OK
}

// someModes: both, none, those next to them and at the ends, and numbers that
// a narrower type would take for one of them.
func someModes() []int {
	l := []int{0, 1, 2, -1, -2, 3, 4, math.MinInt, math.MinInt + 1, math.MinInt + 2, math.MaxInt, math.MaxInt - 1}
	for _, bits := range []int{8, 16, 32} {
		for m := range 3 {
			l = append(l, m+1<<bits)
		}
	}
	return l
}

// someTimes: the ends of all times and of their types, and what a narrower or
// signed type would take for another one.
func someTimes() []uint64 {
	return []uint64{
		0, 1, 2, 49, 50, 51, 100, day, math.MaxInt32, math.MaxInt32 + 1, math.MaxUint32, math.MaxUint32 + 1, math.MaxUint32 + 52,
		maxTime - day, maxTime - 1, maxTime, maxTime + 1, maxTime + 2, math.MaxInt64, 1 << 63, 1<<63 + 50, math.MaxUint64 - 1, math.MaxUint64,
	}
}

// around: t and those next to it, where there are such.
func around(t uint64) []uint64 {
	l := []uint64{t}
	if t > 0 {
		l = append(l, t-1)
	}
	if t < math.MaxUint64 {
		l = append(l, t+1)
	}
	return l
}

// untilsAt: the ends to ask for at now.
func untilsAt(now uint64) []uint64 { return append(around(now), someTimes()...) }

// retainsAt: all modes with all ends.
func retainsAt(now uint64) []api.Retain {
	var l []api.Retain
	for _, mode := range someModes() {
		for _, until := range untilsAt(now) {
			l = append(l, api.Retain{Mode: mode, Until: until})
		}
	}
	return l
}

func gov(until uint64) api.Retain  { return api.Retain{Mode: api.Governance, Until: until} }
func comp(until uint64) api.Retain { return api.Retain{Mode: api.Compliance, Until: until} }

// words: of a retention.
func words(r api.Retain) string {
	switch r.Mode {
	case 0:
		return fmt.Sprintf("none until %d", r.Until)
	case 1:
		return fmt.Sprintf("governance until %d", r.Until)
	case 2:
		return fmt.Sprintf("compliance until %d", r.Until)
	}
	return fmt.Sprintf("mode %d until %d", r.Mode, r.Until)
}
