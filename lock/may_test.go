package lock_test

import (
	"bytes"
	"math"
	"testing"

	"stele/api"
	"stele/lock"
)

// P1503

func TestMayDeleteByHand(t *testing.T) {
	for _, c := range []struct {
		r             api.Retain
		now           uint64
		plain, bypass api.Errno
	}{
		{api.Retain{}, 50, api.OK, api.OK},
		{gov(100), 50, api.ErrLocked, api.OK}, {comp(100), 50, api.ErrLocked, api.ErrLocked},
		// one that ends with the next second, and ones that have ended
		{gov(100), 99, api.ErrLocked, api.OK}, {comp(100), 99, api.ErrLocked, api.ErrLocked},
		{gov(100), 100, api.OK, api.OK}, {comp(100), 100, api.OK, api.OK},
		{gov(100), 101, api.OK, api.OK}, {comp(100), 101, api.OK, api.OK},
		{gov(100), 0, api.ErrLocked, api.OK}, {comp(1), 0, api.ErrLocked, api.ErrLocked}, {gov(0), 0, api.OK, api.OK}, {comp(0), 0, api.OK, api.OK},
		{comp(maxTime), maxTime - 1, api.ErrLocked, api.ErrLocked}, {comp(maxTime), maxTime, api.OK, api.OK}, {comp(maxTime + 1), maxTime, api.ErrLocked, api.ErrLocked},
		{gov(math.MaxUint64), math.MaxUint64 - 1, api.ErrLocked, api.OK}, {comp(math.MaxUint64), math.MaxUint64, api.OK, api.OK}, {comp(100), math.MaxUint64, api.OK, api.OK},
		// what is no mode keeps nothing
		{api.Retain{Until: 100}, 50, api.OK, api.OK}, {api.Retain{Mode: -1, Until: 100}, 50, api.OK, api.OK},
		{api.Retain{Mode: 3, Until: 100}, 50, api.OK, api.OK}, {api.Retain{Mode: math.MaxInt, Until: 100}, 50, api.OK, api.OK},
	} {
		v := api.Version{R: c.r}
		if got := lock.MayDelete(v, c.now, false); got != c.plain {
			t.Errorf("MayDelete of %s at %d: %d, not %d", words(c.r), c.now, got, c.plain)
		}
		if got := lock.MayDelete(v, c.now, true); got != c.bypass {
			t.Errorf("MayDelete of %s at %d with bypass: %d, not %d", words(c.r), c.now, got, c.bypass)
		}
		// A hold is told ahead of all retention, and gives way to nobody.
		v.Hold = true
		for _, bypass := range []bool{false, true} {
			if got := lock.MayDelete(v, c.now, bypass); got != api.ErrHold {
				t.Errorf("MayDelete of %s and a hold at %d, bypass %t: %d", words(c.r), c.now, bypass, got)
			}
		}
	}
}

func TestMayDeleteOverTheEdges(t *testing.T) {
	for _, now := range someTimes() {
		for _, r := range retainsAt(now) {
			for i := range 4 {
				v, bypass := api.Version{R: r, Hold: i%2 == 1}, i/2 == 1
				if got := lock.MayDelete(v, now, bypass); got != deleteSays(v, now, bypass) {
					t.Errorf("MayDelete of %s, hold %t, at %d, bypass %t: %d", words(r), v.Hold, now, bypass, got)
				}
			}
		}
	}
}

// What else a version has does not matter, and its bytes stay as they are.
func TestMayDeleteOfWholeVersions(t *testing.T) {
	data := []byte("bytes")
	for _, marker := range []bool{false, true} {
		for _, r := range []api.Retain{{}, gov(100), comp(100)} {
			v := api.Version{Bucket: "b", Key: "k", Id: 7, Order: 8, Marker: marker, Data: data[:3], R: r, Time: 200}
			for _, bypass := range []bool{false, true} {
				if got := lock.MayDelete(v, 50, bypass); got != deleteSays(v, 50, bypass) {
					t.Errorf("MayDelete of %s, marker %t, bypass %t: %d", words(r), marker, bypass, got)
				}
			}
		}
	}
	if !bytes.Equal(data, []byte("bytes")) {
		t.Errorf("the bytes are %q now", data)
	}
}

// P1504

// The example of the chapter.
func TestShortenedByExample(t *testing.T) {
	for _, bypass := range []bool{false, true} {
		want := api.ErrLocked
		if bypass {
			want = api.OK
		}
		if got := lock.MaySet(gov(100), gov(60), 50, bypass); got != want {
			t.Errorf("governance, bypass %t: %d", bypass, got)
		}
		for now := range uint64(60) {
			if got := lock.MaySet(comp(100), comp(60), now, bypass); got != api.ErrLocked {
				t.Errorf("compliance at %d, bypass %t: %d", now, bypass, got)
			}
		}
	}
}

func TestMaySetByHand(t *testing.T) {
	const locked, ok = api.ErrLocked, api.OK
	none := api.Retain{}
	for _, c := range []struct {
		old, to       api.Retain
		plain, bypass api.Errno
	}{
		// behind none, and behind what is not active at 50
		{none, none, ok, ok}, {none, gov(51), ok, ok}, {none, comp(51), ok, ok}, {none, comp(maxTime), ok, ok},
		{gov(50), none, ok, ok}, {gov(50), gov(51), ok, ok}, {gov(49), comp(51), ok, ok},
		{comp(50), none, ok, ok}, {comp(50), gov(51), ok, ok}, {comp(49), comp(51), ok, ok}, {comp(0), none, ok, ok},
		{api.Retain{Until: 100}, none, ok, ok}, {api.Retain{Mode: 3, Until: 100}, none, ok, ok}, {api.Retain{Mode: -1, Until: 100}, gov(60), ok, ok}, {api.Retain{Mode: 3, Until: 100}, gov(60), ok, ok},
		// the same again, made longer, made shorter
		{gov(100), gov(100), ok, ok}, {gov(100), gov(101), ok, ok}, {gov(100), gov(99), locked, ok}, {gov(100), gov(51), locked, ok},
		{comp(100), comp(100), ok, ok}, {comp(100), comp(101), ok, ok}, {comp(100), comp(maxTime), ok, ok}, {comp(100), comp(99), locked, locked}, {comp(100), comp(51), locked, locked},
		// the other mode
		{gov(100), comp(100), ok, ok}, {gov(100), comp(101), ok, ok}, {gov(100), comp(99), locked, ok},
		{comp(100), gov(100), locked, locked}, {comp(100), gov(200), locked, locked}, {comp(100), gov(60), locked, locked}, {comp(100), gov(maxTime), locked, locked},
		// taken away, also with the last second to come
		{gov(100), none, locked, ok}, {comp(100), none, locked, locked},
		{gov(51), none, locked, ok}, {comp(51), none, locked, locked}, {comp(51), gov(51), locked, locked}, {comp(51), comp(51), ok, ok},
		{gov(maxTime), gov(maxTime - 1), locked, ok}, {comp(maxTime), comp(maxTime - 1), locked, locked}, {comp(maxTime), comp(maxTime), ok, ok},
		// what was never right, but is active
		{comp(maxTime + 1), comp(maxTime), locked, locked}, {gov(maxTime + 1), gov(maxTime), locked, ok}, {gov(math.MaxUint64), comp(maxTime), locked, ok},
	} {
		if got := lock.MaySet(c.old, c.to, 50, false); got != c.plain {
			t.Errorf("%s behind %s: %d, not %d", words(c.to), words(c.old), got, c.plain)
		}
		if got := lock.MaySet(c.old, c.to, 50, true); got != c.bypass {
			t.Errorf("%s behind %s with bypass: %d, not %d", words(c.to), words(c.old), got, c.bypass)
		}
	}
}

// What is not right is ErrState, whatever it is set behind, and ahead of what
// stands against it.
func TestMaySetOfWhatIsNotRight(t *testing.T) {
	wrong := []api.Retain{
		gov(0), gov(49), gov(50), comp(0), comp(49), comp(50), gov(maxTime + 1), comp(maxTime + 1), gov(math.MaxUint64), comp(math.MaxUint64),
		{Until: 1}, {Until: 50}, {Until: 100}, {Until: 200}, {Until: math.MaxUint64},
		{Mode: -1}, {Mode: -1, Until: 100}, {Mode: 3}, {Mode: 3, Until: 100}, {Mode: 3, Until: 200}, {Mode: math.MinInt, Until: 100}, {Mode: math.MaxInt, Until: 200},
	}
	olds := append([]api.Retain{{}, gov(40), gov(50), gov(51), gov(100), comp(40), comp(50), comp(51), comp(100), comp(maxTime), comp(math.MaxUint64)}, wrong...)
	for _, old := range olds {
		for _, to := range wrong {
			for _, bypass := range []bool{false, true} {
				if got := lock.MaySet(old, to, 50, bypass); got != api.ErrState {
					t.Errorf("%s behind %s, bypass %t: %d", words(to), words(old), bypass, got)
				}
			}
		}
	}
}

func TestMaySetOverTheEdges(t *testing.T) {
	for _, now := range someTimes() {
		l := retainsAt(now)
		for _, old := range l {
			for _, to := range l {
				// Most of them are not right, by the mode alone: a few will do.
				if (to.Mode < -1 || to.Mode > 3) && old.Mode != api.Compliance {
					continue
				}
				for _, bypass := range []bool{false, true} {
					if got := lock.MaySet(old, to, now, bypass); got != setSays(old, to, now, bypass) {
						t.Fatalf("%s behind %s at %d, bypass %t: %d", words(to), words(old), now, bypass, got)
					}
				}
			}
		}
	}
}
