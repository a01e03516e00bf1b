package model_test

import (
	"math/rand"
	"strings"
	"testing"

	"stele/api"
	"stele/model"
)

// P1803, and P1802 over rows of operations of chance.

// one: one of l, by chance.
func one[T any](r *rand.Rand, l ...T) T { return l[r.Intn(len(l))] }

// anyOp: an operation of chance; most of them are of a few things that come up
// again, and often can be done.
func anyOp(r *rand.Rand, s api.State) api.Op {
	o := api.Op{
		Kind:   1 + r.Intn(19),
		Bucket: one(r, "a", "b", "b", "c", "d"),
		Key:    one(r, "k", "k", "k", "l", "m"),
		Has:    r.Intn(2) == 0, Lock: r.Intn(2) == 0, Mfa: r.Intn(4) == 0, Code: r.Intn(3) > 0, Bypass: r.Intn(2) == 0, Hold: r.Intn(5) == 0,
		N: one(r, 0, 1, 1, 2, 2, 3, 4, 5), M: one(r, 0, 1, 1, 2, 30), Draw: uint64(r.Intn(9)), Version: uint64(r.Intn(9)),
		Text: one(r, "", "allow a b c", "deny * * *", "deny"), Data: ofSize(one(r, 0, 1, 5, 700)), Marker: one(r, "", "", "k", "l"),
		Parts: one(r, []int{1}, []int{1, 2}, []int{2, 1}, []int{1, 2, 3, 4}, nil),
	}
	if r.Intn(3) == 0 {
		o.R = api.Retain{Mode: r.Intn(3), Until: s.Clock + uint64(r.Intn(3*day))}
	}
	if r.Intn(2) == 0 && len(s.Versions) > 0 {
		v := s.Versions[r.Intn(len(s.Versions))]
		o.Bucket, o.Key, o.Version = v.Bucket, v.Key, v.Id
	}
	if o.Kind >= 14 && o.Kind <= 16 && r.Intn(4) > 0 && len(s.Uploads) > 0 {
		u := s.Uploads[r.Intn(len(s.Uploads))]
		o.Bucket, o.Key, o.Version, o.Draw = u.Bucket, u.Key, u.Id, o.Draw+100
	}
	if r.Intn(12) == 0 {
		wild(r, &o)
	}
	return o
}

// wild: something of o that can't be, or seldom is.
func wild(r *rand.Rand, o *api.Op) {
	switch r.Intn(8) {
	case 0:
		o.Kind = one(r, -1, 0, 20, 1<<32+7)
	case 1:
		o.Bucket = one(r, "", "B", "e", "f", "g", "h", "i", "j", strings.Repeat("b", 17))
	case 2:
		o.Key = one(r, "", " ", "\x7f", strings.Repeat("k", 48), strings.Repeat("k", 49))
	case 3:
		o.Data = ofSize(one(r, 1535, 1536, 1537))
	case 4:
		o.N, o.M = one(r, someInts()...), one(r, someInts()...)
	case 5:
		o.R = api.Retain{Mode: one(r, -1, 0, 1, 2, 3), Until: one(r, uint64(0), 1, maxTime, maxTime+1, 1<<64-1)}
	case 6:
		o.Draw, o.Version = one(r, uint64(0), 1<<63, 1<<64-1), one(r, uint64(0), 1<<63, 1<<64-1)
	case 7:
		o.Parts = one(r, []int{0}, []int{5}, []int{3, 4}, []int{1, 1})
	}
}

// anyNow: a time of chance: most often near the clock, on either side.
func anyNow(r *rand.Rand, clock uint64) uint64 {
	switch r.Intn(20) {
	case 0:
		return 0
	case 1:
		return clock + uint64(r.Intn(2*day))
	case 2:
		return clock - min(clock, uint64(r.Intn(2*day)))
	}
	return clock + uint64(r.Intn(40)) - min(clock, 10)
}

// stays: the versions of a that must be there in b are, behind o.
func stays(t *testing.T, a, b api.State, o api.Op) int {
	t.Helper()
	kept := 0
	for _, v := range a.Versions {
		compliant := v.R.Mode == compliance && b.Clock < v.R.Until
		if !compliant && !v.Hold {
			continue
		}
		kept++
		var found *api.Version
		for i := range b.Versions {
			if w := &b.Versions[i]; w.Bucket == v.Bucket && w.Key == v.Key && w.Id == v.Id {
				found = w
			}
		}
		switch {
		case found == nil:
			t.Fatalf("%s is gone by %s", showVersion(v), showOp(o))
		case string(found.Data) != string(v.Data) || found.Order != v.Order || found.Time != v.Time || found.Marker:
			t.Fatalf("%s is %s by %s", showVersion(v), showVersion(*found), showOp(o))
		case compliant && (found.R.Mode != compliance || found.R.Until < v.R.Until):
			t.Fatalf("%s is kept by %v behind %s", showVersion(v), found.R, showOp(o))
		case v.Hold && !found.Hold && o.Kind != api.OpHold:
			t.Fatalf("%s is not held behind %s", showVersion(v), showOp(o))
		}
	}
	return kept
}

// Walks of chance: each step as the words on paper say, and the laws.
func TestLawsOverWalks(t *testing.T) {
	done, refused, kept := map[int]int{}, map[[2]int]int{}, 0
	for seed := range 60 {
		r := rand.New(rand.NewSource(int64(seed)))
		s := api.State{}
		if seed%3 == 0 {
			s = rich()
		}
		for range 500 {
			o, now := anyOp(r, s), anyNow(r, s.Clock)
			got, res := check(t, s, o, now)
			if !model.Right(got) || !rightSays(got) {
				t.Fatalf("%s leaves what breaks %v:\n%s", showOp(o), wrongsSays(got), show(got))
			}
			if got.Clock < s.Clock || got.Next < s.Next {
				t.Fatalf("%s: the clock fell from %d to %d, or Next from %d to %d", showOp(o), s.Clock, got.Clock, s.Next, got.Next)
			}
			if res.Err != api.OK {
				refused[[2]int{o.Kind, int(res.Err)}]++
				same := got
				same.Clock = s.Clock
				if !model.Same(same, s) {
					t.Fatalf("%s is refused and leaves\n%s", showOp(o), show(got))
				}
			} else {
				done[o.Kind]++
			}
			kept += stays(t, s, got, o)
			s = got
		}
	}
	if len(done) != 19 || kept < 1000 {
		t.Errorf("done: %v; kept: %d", done, kept)
	}
	for _, pair := range refusals() {
		if refused[pair] == 0 {
			t.Errorf("kind %d was never refused by %d", pair[0], pair[1])
		}
	}
	for pair := range refused {
		if !isNamed(pair) {
			t.Errorf("kind %d was refused by %d", pair[0], pair[1])
		}
	}
}

// refusals: each kind with each of the errors that the words name for it.
func refusals() [][2]int {
	return [][2]int{
		{1, 36}, {1, 31}, {1, 3}, {2, 30}, {2, 32}, {3, 30}, {3, 40}, {3, 24}, {4, 30}, {4, 39}, {4, 40}, {5, 30}, {5, 45}, {6, 30}, {6, 40},
		{7, 30}, {7, 36}, {7, 3}, {7, 39}, {7, 40}, {7, 43}, {8, 30}, {8, 34}, {8, 35}, {8, 33}, {9, 30}, {9, 36}, {9, 43}, {9, 34}, {9, 24}, {9, 37}, {9, 38},
		{10, 30}, {10, 39}, {10, 34}, {10, 35}, {10, 33}, {10, 40}, {10, 37}, {11, 30}, {11, 39}, {11, 34}, {11, 35}, {11, 33}, {12, 30}, {12, 1}, {13, 30}, {13, 36}, {13, 3}, {13, 43},
		{14, 30}, {14, 41}, {14, 42}, {14, 3}, {15, 30}, {15, 41}, {15, 42}, {15, 39}, {15, 40}, {15, 43}, {16, 30}, {16, 41},
	}
}

// isNamed: do the words name the error for the kind?
func isNamed(pair [2]int) bool {
	for _, p := range refusals() {
		if p == pair {
			return true
		}
	}
	return (pair[0] < 1 || pair[0] > 19) && pair[1] == 1
}

// A version under compliance, or a hold, against each of the operations that
// there are, one behind another, by everyone with all leave.
func TestKeptAgainstAll(t *testing.T) {
	ops := []api.Op{{Kind: 17}, {Kind: 2, Bucket: "b"}}
	for _, o := range []api.Op{{Kind: 3, N: 2}, {Kind: 3, N: 0}, {Kind: 4, N: 0}, {Kind: 5, Text: "allow * * *"}, {Kind: 6, N: 1, M: 1}, {Kind: 7}, {Kind: 9}, {Kind: 9, Has: true}, {Kind: 10}, {Kind: 10, Has: true}, {Kind: 10, Has: true, R: keep(1, maxTime)}, {Kind: 10, Has: true, R: keep(2, 60)}, {Kind: 13}, {Kind: 14, N: 1}, {Kind: 15, Parts: []int{1}}, {Kind: 16}, {Kind: 1}, {Kind: 1, Lock: true}} {
		for _, id := range []uint64{7, 0, 9} {
			o.Bucket, o.Key, o.Version, o.Draw, o.Bypass, o.Code = "b", "k", id, id, true, true
			ops = append(ops, o)
		}
	}
	for _, v := range []api.Version{{R: keep(compliance, 100*day)}, {Hold: true}, {Hold: true, R: keep(governance, 100*day)}, {Hold: true, R: keep(compliance, 100*day)}} {
		v.Bucket, v.Key, v.Id, v.Data = "b", "k", 7, []byte("bytes")
		first := api.State{Buckets: []api.Bucket{{Name: "b", Versioning: enabled, Lock: true, Expire: 1, Noncurrent: 1}}, Versions: []api.Version{v, {Bucket: "b", Key: "k", Id: 8, Order: 1}}, Uploads: []api.Upload{{Bucket: "b", Key: "k", Id: 9}}, Next: 2}
		for _, a := range ops {
			for _, b := range ops {
				s := first
				for _, o := range []api.Op{a, b, {Kind: 17}} {
					got, _ := model.Step(s, o, 99*day)
					if stays(t, s, got, o) < 1 || !model.Right(got) {
						t.Fatalf("%s, %s:\n%s", showOp(a), showOp(b), show(got))
					}
					s = got
				}
			}
		}
	}
}

// What is under governance goes with leave to bypass alone.
func TestGovernance(t *testing.T) {
	for _, bypass := range []bool{false, true} {
		s, _ := model.Step(rich(), api.Op{Kind: 9, Bucket: "lock", Key: "k", Has: true, Version: 9, Bypass: bypass, Code: true}, 1999)
		if gone := len(s.Versions) == 16; gone != bypass {
			t.Errorf("gone with bypass %t: %t", bypass, gone)
		}
		s, _ = model.Step(rich(), api.Op{Kind: 17, Bypass: bypass}, 1999)
		if len(s.Versions) != 17 {
			t.Errorf("swept with bypass %t", bypass)
		}
	}
}

// The same operation on the same state answers the same, and leaves the same.
func TestStepTwice(t *testing.T) {
	r := rand.New(rand.NewSource(77))
	s := rich()
	for range 3000 {
		o, now := anyOp(r, s), anyNow(r, s.Clock)
		a, x := model.Step(s, o, now)
		b, y := model.Step(s, o, now)
		if !model.Same(a, b) || !sameResult(x, y) {
			t.Fatalf("%s:\n%s\n%s", showOp(o), show(a), show(b))
		}
		s = a
		if len(s.Versions) > 60 {
			s = rich()
		}
	}
}
