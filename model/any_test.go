package model_test

import (
	"fmt"
	"math"
	"slices"
	"strings"
	"testing"

	"stele/api"
	"stele/model"
)

// States and texts for the tests, and the ways to hold them against others.

// ofSize: so many bytes, not all alike.
func ofSize(n int) []byte {
	b := make([]byte, n)
	for i := range b {
		b[i] = byte('a' + i%23)
	}
	return b
}

// rich: a right state that has some of all: buckets of each versioning, with
// lock and without, versions, markers, retentions, holds, uploads.
func rich() api.State {
	ver := func(bucket, key string, id, order uint64, data string) api.Version {
		return api.Version{Bucket: bucket, Key: key, Id: id, Order: order, Data: []byte(data), Time: 100 + order}
	}
	mark := func(bucket, key string, id, order uint64) api.Version {
		return api.Version{Bucket: bucket, Key: key, Id: id, Order: order, Marker: true, Time: 100 + order}
	}
	kept := func(v api.Version, mode int, until uint64, hold bool) api.Version {
		v.R, v.Hold = api.Retain{Mode: mode, Until: until}, hold
		return v
	}
	return api.State{
		Buckets: []api.Bucket{
			{Name: "-def", Versioning: enabled, Lock: true, Default: compliance, Days: 1},
			{Name: "code", Versioning: enabled, Mfa: true, Noncurrent: 1},
			{Name: "lock", Versioning: enabled, Lock: true, Policy: "allow ann get *", Noncurrent: 1},
			{Name: "off", Expire: 1},
			{Name: "susp", Versioning: suspended, Expire: 2, Noncurrent: 2},
		},
		Versions: []api.Version{
			ver("code", "k", 7, 0, "first"), ver("lock", "k", 7, 1, "locked"), ver("off", "k", 0, 2, "plain"), ver("susp", "k", 5, 4, "old"),
			kept(ver("lock", "k", 8, 5, "compliance"), compliance, 2000, false), kept(ver("lock", "k", 9, 6, "governance"), governance, 2000, false),
			kept(ver("lock", "k", 10, 7, "held"), 0, 0, true), kept(ver("lock", "l", 7, 8, ""), compliance, 500, false),
			ver("code", "k", 0, 9, "without id"), mark("code", "k", 8, 10), ver("susp", "k", 0, 12, "null"), mark("lock", "m", 7, 13),
			ver("susp", "n", 3, 14, "n"), mark("susp", "n", 0, 15), ver("off", "l", 0, 16, "also"), ver("code", "l", 7, 17, "latest"),
			kept(ver("-def", "k", 7, 18, "by default"), compliance, 86500, false),
		},
		Uploads: []api.Upload{
			{Bucket: "off", Key: "k", Id: 2, Time: 110, Parts: []api.Part{{N: 1, Data: []byte("one")}, {N: 3, Data: []byte("three")}}},
			{Bucket: "lock", Key: "k", Id: 3, Time: 111, Parts: []api.Part{{N: 2, Data: []byte("two")}}},
			{Bucket: "susp", Key: "k", Id: 7, Time: 112, Parts: []api.Part{{N: 1, Data: []byte("up")}}},
			{Bucket: "code", Key: "k", Id: 8, Time: 113},
			{Bucket: "code", Key: "l", Id: 9, Time: 113, Parts: []api.Part{{N: 4, Data: nil}}},
		},
		Clock: 1000, Next: 20,
	}
}

// fullOf: rich, with as many buckets and uploads as there may be, or a few
// less.
func fullOf(buckets, uploads int) api.State {
	s := rich()
	for i := 0; len(s.Buckets) < buckets; i++ {
		s.Buckets = append(s.Buckets, api.Bucket{Name: fmt.Sprintf("t%d", i)})
	}
	for i := 0; len(s.Uploads) < uploads; i++ {
		s.Uploads = append(s.Uploads, api.Upload{Bucket: "off", Key: "x", Id: uint64(20 + i)})
	}
	return s
}

// short: a text that is not too long to be read.
func short(s string) string {
	if len(s) > 3000 {
		return s[:3000] + " .."
	}
	return s
}

// show: a state as text.
func show(s api.State) string {
	var l []string
	l = append(l, fmt.Sprintf("clock %d next %d", s.Clock, s.Next))
	for _, b := range s.Buckets {
		l = append(l, fmt.Sprintf("bucket %+v", b))
	}
	for _, v := range s.Versions {
		l = append(l, showVersion(v))
	}
	for _, u := range s.Uploads {
		l = append(l, fmt.Sprintf("upload %q/%q id %d at %d:", u.Bucket, u.Key, u.Id, u.Time))
		for _, p := range u.Parts {
			l = append(l, fmt.Sprintf("  part %d %s", p.N, showData(p.Data)))
		}
	}
	return short(strings.Join(l, "\n"))
}

func showData(b []byte) string {
	if len(b) > 40 {
		return fmt.Sprintf("%d bytes", len(b))
	}
	return fmt.Sprintf("%q", b)
}

func showVersion(v api.Version) string {
	return fmt.Sprintf("version %q/%q id %d order %d marker %t %s %v hold %t at %d", v.Bucket, v.Key, v.Id, v.Order, v.Marker, showData(v.Data), v.R, v.Hold, v.Time)
}

func showResult(r api.Result) string {
	s := fmt.Sprintf("err %d version %d marker %t data %s %v hold %t names %q more %t", r.Err, r.Version, r.Marker, showData(r.Data), r.R, r.Hold, r.Names, r.More)
	for _, v := range r.Versions {
		s += "\n  " + showVersion(v)
	}
	return short(s)
}

func showOp(o api.Op) string {
	o.Data = o.Data[:min(len(o.Data), 8)]
	return short(fmt.Sprintf("%+v", o))
}

// roomOf: l with spare room behind it, filled with what fill gives.
func roomOf[T any](l []T, fill T) []T {
	room := make([]T, len(l), len(l)+3)
	copy(room, l)
	for i := range 3 {
		room[:len(l)+3][len(l)+i] = fill
	}
	return room
}

// roomy: s, each list of it with spare room that has something in it.
func roomy(s api.State) api.State {
	s = copied(s)
	for i := range s.Versions {
		s.Versions[i].Data = roomOf(s.Versions[i].Data, 'R')
	}
	for i := range s.Uploads {
		for j := range s.Uploads[i].Parts {
			s.Uploads[i].Parts[j].Data = roomOf(s.Uploads[i].Parts[j].Data, 'R')
		}
		s.Uploads[i].Parts = roomOf(s.Uploads[i].Parts, api.Part{N: 77, Data: []byte("room")})
	}
	s.Buckets = roomOf(s.Buckets, api.Bucket{Name: "room"})
	s.Versions = roomOf(s.Versions, api.Version{Bucket: "room", Data: []byte("room")})
	s.Uploads = roomOf(s.Uploads, api.Upload{Bucket: "room", Parts: []api.Part{{N: 78}}})
	return s
}

func roomyOp(o api.Op) api.Op {
	o.Data, o.Parts = roomOf(o.Data, 'R'), roomOf(o.Parts, 79)
	return o
}

func all[T any](l []T) []T { return l[:cap(l)] }

// whole: all of a state as text, spare room too.
func whole(s api.State) string {
	text := fmt.Sprint(s.Clock, s.Next, all(s.Buckets), len(s.Buckets), len(s.Versions), len(s.Uploads))
	for _, v := range all(s.Versions) {
		text += fmt.Sprint(v, len(v.Data), all(v.Data))
	}
	for _, u := range all(s.Uploads) {
		text += fmt.Sprint(u.Bucket, u.Key, u.Id, u.Time, len(u.Parts))
		for _, p := range all(u.Parts) {
			text += fmt.Sprint(p.N, len(p.Data), all(p.Data))
		}
	}
	return text
}

func wholeOp(o api.Op) string {
	return fmt.Sprintf("%+v", o) + fmt.Sprint(len(o.Data), all(o.Data), len(o.Parts), all(o.Parts))
}

func blot(b []byte) {
	for i := range all(b) {
		all(b)[i] = '#'
	}
}

func blotVersions(l []api.Version) {
	for i := range all(l) {
		blot(all(l)[i].Data)
		all(l)[i] = api.Version{Key: "scribbled"}
	}
}

// scribble: other things stand in all of the state's memory, spare room too.
func scribble(s api.State) {
	for i := range all(s.Buckets) {
		all(s.Buckets)[i] = api.Bucket{Name: "scribbled"}
	}
	blotVersions(s.Versions)
	for i := range all(s.Uploads) {
		parts := all(all(s.Uploads)[i].Parts)
		for j := range parts {
			blot(parts[j].Data)
			parts[j] = api.Part{N: -1}
		}
		all(s.Uploads)[i] = api.Upload{Key: "scribbled"}
	}
}

func scribbleOp(o api.Op) {
	blot(o.Data)
	for i := range all(o.Parts) {
		all(o.Parts)[i] = -1
	}
}

func scribbleResult(r api.Result) {
	blot(r.Data)
	blotVersions(r.Versions)
	for i := range all(r.Names) {
		all(r.Names)[i] = "scribbled"
	}
}

// check: Step does what the words say, and what comes is right.
func check(t *testing.T, s api.State, o api.Op, now uint64) (api.State, api.Result) {
	t.Helper()
	got, r := model.Step(s, o, now)
	want, w := stepSays(s, o, now)
	if !sameResult(r, w) {
		t.Fatalf("%s at %d of\n%s\nanswers %s\nnot %s", showOp(o), now, show(s), showResult(r), showResult(w))
	}
	if !sameSays(got, want) {
		t.Fatalf("%s at %d of\n%s\nleaves\n%s\nnot\n%s", showOp(o), now, show(s), show(got), show(want))
	}
	return got, r
}

// someInts: what a number of an operation may be, by its edges and by what a
// narrower type would take for another one.
func someInts() []int {
	return []int{-1, 0, 1, 2, 3, 4, 5, 99, 100, 101, maxDays - 1, maxDays, maxDays + 1, math.MinInt, math.MaxInt, 1 << 32, 1<<32 + 1, 256, 257, -256}
}

// without: l without what stands at a place.
func without[T any](l []T, i int) []T { return slices.Concat(l[:i], l[i+1:]) }
