package model_test

import (
	"strings"
	"testing"

	"stele/api"
	"stele/model"
)

// P1802: each kind over the edges of all that it looks at, against the words
// on paper.

// each: every one of ops with every one of values set.
func each[T any](ops []api.Op, set func(o *api.Op, v T), values ...T) []api.Op {
	var l []api.Op
	for _, o := range ops {
		for _, v := range values {
			o := o
			set(&o, v)
			l = append(l, o)
		}
	}
	return l
}

func ofBuckets(kind int) []api.Op {
	return each([]api.Op{{Kind: kind}}, func(o *api.Op, s string) { o.Bucket = s }, "-def", "code", "lock", "off", "susp", "nosuch", "", "B")
}

func ofKinds(kinds ...int) []api.Op {
	var l []api.Op
	for _, kind := range kinds {
		l = append(l, ofBuckets(kind)...)
	}
	return l
}

func withKeys(l []api.Op) []api.Op {
	return each(l, func(o *api.Op, s string) { o.Key = s }, "k", "l", "m", "n", "new", "", "a b", strings.Repeat("~", 48), strings.Repeat("~", 49), "\x7f", "\x21")
}

func withFewKeys(l []api.Op) []api.Op {
	return each(l, func(o *api.Op, s string) { o.Key = s }, "k", "l", "")
}

func withNumbers(l []api.Op) []api.Op {
	return each(each(l, func(o *api.Op, n int) { o.N = n }, someInts()...), func(o *api.Op, n int) { o.M = n }, someInts()...)
}

func withVersions(l []api.Op, ids ...uint64) []api.Op {
	return each(l, func(o *api.Op, id uint64) { o.Version = id }, ids...)
}

func withDraws(l []api.Op, draws ...uint64) []api.Op {
	return each(l, func(o *api.Op, draw uint64) { o.Draw = draw }, draws...)
}

func withKept(l []api.Op) []api.Op {
	l = each(l, func(o *api.Op, r api.Retain) { o.R = r }, keep(0, 0), keep(0, 1), keep(1, 1000), keep(1, 1001), keep(1, 1999), keep(2, 2000), keep(2, 2001), keep(1, maxTime), keep(2, maxTime+1), keep(3, 2000), keep(-1, 2000))
	return each(l, func(o *api.Op, hold bool) { o.Hold = hold }, false, true)
}

func withBoth(l []api.Op, set func(o *api.Op, v bool)) []api.Op { return each(l, set, false, true) }

// over: all of the operations, at a time at which nothing more is kept, and at
// one at which something is.
func over(t *testing.T, l []api.Op, states ...func() api.State) {
	t.Helper()
	if len(states) == 0 {
		states = append(states, rich)
	}
	told := map[api.Errno]int{}
	for _, first := range states {
		s := first()
		for i, o := range l {
			_, r := check(t, s, o, []uint64{0, 1000, 1001, 2000}[i%4])
			told[r.Err]++
		}
		if !sameSays(s, first()) {
			t.Errorf("the state was changed to\n%s", show(s))
		}
	}
	if len(told) < 2 {
		t.Errorf("nothing but %v was told", told)
	}
}

func TestBucketsOverTheEdges(t *testing.T) {
	l := withBoth(ofKinds(1, 2), func(o *api.Op, lock bool) { o.Lock = lock })
	l = each(l, func(o *api.Op, name string) {
		if name != "" {
			o.Bucket = name
		}
	}, "", "t0", "t1", "zz", "-", "0", strings.Repeat("n", 16), strings.Repeat("n", 17), "a.b", "\xff")
	over(t, l, rich, func() api.State { return fullOf(7, 8) }, func() api.State { return fullOf(8, 5) }, func() api.State { return api.State{} })
}

func TestSettingsOverTheEdges(t *testing.T) {
	l := withNumbers(ofKinds(3))
	l = withBoth(withBoth(l, func(o *api.Op, mfa bool) { o.Mfa = mfa }), func(o *api.Op, code bool) { o.Code = code })
	over(t, l, rich, func() api.State {
		s := rich()
		s.Buckets[2].Mfa = true
		return s
	})
	over(t, withNumbers(ofKinds(4, 6)))
	over(t, each(ofKinds(5), func(o *api.Op, s string) { o.Text = s }, "", "allow a b c", "allow a b", ";", "deny * * *;allow ann get b/*", strings.Repeat("allow a b c;", 13), "allow "+strings.Repeat("a", 65)+" b c"))
}

func TestPutOverTheEdges(t *testing.T) {
	l := each(withKeys(ofKinds(7)), func(o *api.Op, n int) { o.Data = ofSize(n) }, 0, 1, 1536, 1537)
	over(t, withDraws(withKept(l), 0, 7, 30))
	over(t, withDraws(l, 0, 1, 3, 5, 7, 8, 9, 10, 11, 1<<64-1, 7+1<<32))
}

func TestGetOverTheEdges(t *testing.T) {
	l := withBoth(withKeys(ofKinds(8)), func(o *api.Op, has bool) { o.Has = has })
	over(t, withVersions(l, 0, 1, 3, 5, 7, 8, 9, 10, 11, 7+1<<32))
}

func TestDeleteOverTheEdges(t *testing.T) {
	l := withKeys(ofKinds(9))
	over(t, withDraws(l, 0, 1, 3, 5, 7, 8, 9, 10, 11, 1<<64-1))
	l = each(l, func(o *api.Op, id uint64) { o.Has, o.Version = true, id }, 0, 1, 3, 5, 7, 8, 9, 10, 11)
	l = withBoth(withBoth(l, func(o *api.Op, code bool) { o.Code = code }), func(o *api.Op, bypass bool) { o.Bypass = bypass })
	over(t, l, rich, func() api.State {
		s := rich()
		for i := range s.Buckets {
			s.Buckets[i].Mfa = !s.Buckets[i].Mfa
		}
		return s
	})
}

func TestKeptOverTheEdges(t *testing.T) {
	l := withBoth(withFewKeys(ofKinds(10, 11)), func(o *api.Op, has bool) { o.Has = has })
	l = withVersions(l, 0, 3, 7, 8, 9, 10, 11)
	over(t, withBoth(withKept(l), func(o *api.Op, bypass bool) { o.Bypass = bypass }))
}

func TestListOverTheEdges(t *testing.T) {
	l := each(ofKinds(12), func(o *api.Op, n int) { o.N = n }, someInts()...)
	over(t, each(l, func(o *api.Op, s string) { o.Marker = s }, "", "a", "j", "k", "k!", "l", "m", "n", "o", "\xff"))
}

func TestUploadsOverTheEdges(t *testing.T) {
	l := withKeys(ofKinds(13))
	over(t, withDraws(l, 0, 1, 2, 3, 4, 7, 8, 9, 10, 20, 22, 23, 1<<64-1), rich, func() api.State { return fullOf(5, 7) }, func() api.State { return fullOf(5, 8) })
	l = withVersions(withFewKeys(ofKinds(14, 16)), 0, 1, 2, 3, 7, 8, 9, 10, 2+1<<32)
	l = each(l, func(o *api.Op, n int) { o.Data = ofSize(n) }, 0, 3, 1536, 1537)
	over(t, each(l, func(o *api.Op, n int) { o.N = n }, -1, 0, 1, 2, 3, 4, 5, 1<<32+1))
	l = withVersions(withFewKeys(ofKinds(15)), 2, 3, 7, 8, 9)
	l = each(l, func(o *api.Op, parts []int) { o.Parts = parts }, nil, []int{1}, []int{2}, []int{1, 3}, []int{3, 1}, []int{1, 2, 3}, []int{4}, []int{0})
	over(t, withKept(withDraws(l, 0, 7, 30)))
}

// Sweeps of all rules, at the ends of their days.
func TestSweepOverTheEdges(t *testing.T) {
	days := []int{0, 1, 2, 30, maxDays - 1, maxDays}
	for _, expire := range days {
		for _, noncurrent := range days {
			s := rich()
			for i := range s.Buckets {
				s.Buckets[i].Expire, s.Buckets[i].Noncurrent = expire, noncurrent
			}
			nows := []uint64{0, 1000, maxTime}
			for _, d := range []int{expire, noncurrent} {
				for _, order := range []int{0, 1, 2, 4, 10, 16, 18} {
					end := uint64(100 + order + d*day)
					nows = append(nows, end-1, end)
				}
			}
			for _, now := range nows {
				for kind := 17; kind <= 19; kind++ {
					got, _ := check(t, s, api.Op{Kind: kind}, now)
					if !model.Right(got) {
						t.Fatalf("swept at %d:\n%s", now, show(got))
					}
				}
			}
		}
	}
}
