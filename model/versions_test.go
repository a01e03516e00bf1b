package model_test

import (
	"fmt"
	"slices"
	"strings"
	"testing"

	"stele/api"
	"stele/model"
)

// P1802: operations on versions.

const day = 86400

// comes: the version stands behind all others of rich, at its clock, with its
// next number; those at the places without go.
func comes(v api.Version, without ...int) func(s *api.State) {
	return func(s *api.State) {
		for _, at := range without {
			s.Versions = slices.Delete(s.Versions, at, at+1)
		}
		v.Order, v.Time = 20, 1000
		s.Versions, s.Next = append(s.Versions, v), 21
	}
}

// goes: the version at a place of rich goes.
func goes(at int) func(s *api.State) {
	return func(s *api.State) { s.Versions = without(s.Versions, at) }
}

// is: the version at a place of rich is set so.
func is(at int, of func(v *api.Version)) func(s *api.State) {
	return func(s *api.State) { of(&s.Versions[at]) }
}

func keep(mode int, until uint64) api.Retain { return api.Retain{Mode: mode, Until: until} }

func TestPut(t *testing.T) {
	op := func(bucket, key, data string, draw uint64) api.Op {
		return api.Op{Kind: 7, Bucket: bucket, Key: key, Data: []byte(data), Draw: draw}
	}
	ver := func(bucket, key, data string, id uint64) api.Version {
		return api.Version{Bucket: bucket, Key: key, Data: []byte(data), Id: id}
	}
	k48 := strings.Repeat("k", 48)
	draw, name := err(api.ErrDraw), err(api.ErrName)
	fromEach(t, rich, []turn{
		// where there is no versioning, the one without an id goes, whatever the draw
		{op("off", "k", "new", 0), api.Result{}, comes(ver("off", "k", "new", 0), 2)}, {op("off", "k", "new", 9), api.Result{}, comes(ver("off", "k", "new", 0), 2)}, {op("off", "x", "new", 7), api.Result{}, comes(ver("off", "x", "new", 0))}, {op("off", "l", "", 1<<64-1), api.Result{}, comes(ver("off", "l", "", 0), 14)},
		{op("susp", "k", "new", 5), api.Result{}, comes(ver("susp", "k", "new", 0), 10)}, {op("susp", "n", "new", 3), api.Result{}, comes(ver("susp", "n", "new", 0), 13)}, {op("susp", "x", "new", 0), api.Result{}, comes(ver("susp", "x", "new", 0))},
		// where there is, none goes
		{op("code", "k", "new", 9), api.Result{Version: 9}, comes(ver("code", "k", "new", 9))}, {op("code", "k", "new", 1), api.Result{Version: 1}, comes(ver("code", "k", "new", 1))}, {op("code", "l", "", 8), api.Result{Version: 8}, comes(ver("code", "l", "", 8))}, {op("code", "x", "new", 7), api.Result{Version: 7}, comes(ver("code", "x", "new", 7))},
		{op("code", "k", "new", 1<<64-1), api.Result{Version: 1<<64 - 1}, comes(ver("code", "k", "new", 1<<64-1))}, {op("lock", "k", "new", 20), api.Result{Version: 20}, comes(ver("lock", "k", "new", 20))},
		{op("code", "k", "new", 0), draw, nil}, {op("code", "k", "new", 7), draw, nil}, {op("code", "k", "new", 8), draw, nil}, {op("code", "x", "new", 0), draw, nil}, {op("lock", "m", "", 7), draw, nil}, {op("lock", "k", "", 10), draw, nil},
		// keys
		{op("off", "", "", 0), name, nil}, {op("off", k48+"k", "", 0), name, nil}, {op("off", "a b", "", 0), name, nil}, {op("off", "\x7f", "", 0), name, nil}, {op("code", "\x20", "", 0), name, nil}, {op("nosuch", "", "", 0), err(api.ErrBucket), nil},
		{op("off", k48, "d", 0), api.Result{}, comes(ver("off", k48, "d", 0))}, {op("off", "\x21", "d", 0), api.Result{}, comes(ver("off", "\x21", "d", 0))}, {op("off", "\x7e", "d", 0), api.Result{}, comes(ver("off", "\x7e", "d", 0))},
		// bytes
		{op("off", "x", string(ofSize(1536)), 0), api.Result{}, comes(ver("off", "x", string(ofSize(1536)), 0))}, {op("off", "x", string(ofSize(1537)), 0), err(api.ErrBig), nil}, {op("code", "x", string(ofSize(1537)), 0), err(api.ErrBig), nil}, {op("off", "", string(ofSize(1537)), 0), name, nil}, {op("off", "x", string(ofSize(65536)), 0), err(api.ErrBig), nil},
		// nothing else counts
		{api.Op{Kind: 7, Bucket: "code", Key: "x", Draw: 3, Version: 7, Has: true, Lock: true, Mfa: true, Bypass: true, N: -1, M: -1, Text: ";", Parts: []int{9}, Marker: "z"}, api.Result{Version: 3}, comes(ver("code", "x", "", 3))},
	})
}

// Retention and holds of what is put; a bucket's default, where there is none.
func TestPutKept(t *testing.T) {
	op := func(bucket string, r api.Retain, hold bool, draw uint64) api.Op {
		return api.Op{Kind: 7, Bucket: bucket, Key: "x", Data: []byte("d"), R: r, Hold: hold, Draw: draw}
	}
	ver := func(bucket string, r api.Retain, hold bool) api.Version {
		return api.Version{Bucket: bucket, Key: "x", Data: []byte("d"), Id: 30, R: r, Hold: hold}
	}
	ok, none := api.Result{Version: 30}, api.Retain{}
	noLock, state, draw := err(api.ErrNoLock), err(api.ErrState), err(api.ErrDraw)
	turns := []turn{
		{op("lock", none, false, 30), ok, comes(ver("lock", none, false))}, {op("lock", none, true, 30), ok, comes(ver("lock", none, true))},
		{op("-def", none, false, 30), ok, comes(ver("-def", keep(2, 1000+day), false))}, {op("-def", none, true, 30), ok, comes(ver("-def", keep(2, 1000+day), true))},
		{op("-def", keep(1, 1001), false, 30), ok, comes(ver("-def", keep(1, 1001), false))}, {op("-def", keep(2, maxTime), true, 30), ok, comes(ver("-def", keep(2, maxTime), true))},
		{op("off", none, true, 30), noLock, nil}, {op("susp", none, true, 30), noLock, nil}, {op("code", none, true, 0), noLock, nil},
		{op("off", keep(0, 5000), false, 30), state, nil}, {op("code", keep(0, 1), false, 0), state, nil}, {op("lock", keep(0, 1), true, 0), state, nil}, {op("-def", keep(0, 1<<63), false, 30), state, nil}, {op("off", keep(0, 5), true, 30), noLock, nil},
		{op("lock", none, false, 0), draw, nil}, {op("lock", keep(2, 2000), true, 0), draw, nil}, {op("-def", none, false, 0), draw, nil},
	}
	for mode := 1; mode <= 2; mode++ {
		for _, until := range []uint64{1001, 2000, 1 << 32, maxTime - 1, maxTime} {
			turns = append(turns, turn{op("lock", keep(mode, until), false, 30), ok, comes(ver("lock", keep(mode, until), false))}, turn{op("lock", keep(mode, until), true, 30), ok, comes(ver("lock", keep(mode, until), true))})
			turns = append(turns, turn{op("off", keep(mode, until), false, 30), noLock, nil}, turn{op("code", keep(mode, until), false, 30), noLock, nil}, turn{op("susp", keep(mode, until), true, 0), noLock, nil})
		}
		for _, until := range []uint64{0, 1, 999, 1000, maxTime + 1, 1 << 63, 1<<64 - 1} {
			turns = append(turns, turn{op("lock", keep(mode, until), false, 30), state, nil}, turn{op("-def", keep(mode, until), true, 0), state, nil}, turn{op("off", keep(mode, until), false, 30), noLock, nil})
		}
	}
	for _, mode := range []int{-1, 3, 1 << 32, 1<<32 + 1, -1 << 63} {
		for _, until := range []uint64{0, 2000} {
			turns = append(turns, turn{op("lock", keep(mode, until), false, 30), state, nil}, turn{op("off", keep(mode, until), false, 30), noLock, nil})
		}
	}
	fromEach(t, rich, turns)
	// At the end of all times a default keeps nothing more.
	late := func() api.State {
		s := rich()
		s.Clock = maxTime
		return s
	}
	got, r := model.Step(late(), op("-def", none, false, 30), 0)
	if v := got.Versions[17]; r.Err != api.OK || v.R != none || v.Time != maxTime || !model.Right(got) {
		t.Errorf("%s %s", showResult(r), showVersion(v))
	}
	got, r = model.Step(rich(), op("-def", none, false, 30), maxTime-1)
	if v := got.Versions[17]; r.Err != api.OK || v.R != keep(2, maxTime) {
		t.Errorf("%s %s", showResult(r), showVersion(v))
	}
}

// The numbers of versions are counted on, whatever they are.
func TestNext(t *testing.T) {
	for _, next := range []uint64{0, 1, 255, 1<<32 - 1, 1 << 32, 1 << 63, 1<<64 - 2} {
		for _, o := range []api.Op{{Kind: 7, Bucket: "b", Key: "k", Draw: 1}, {Kind: 9, Bucket: "b", Key: "k", Draw: 1}} {
			s := api.State{Buckets: []api.Bucket{{Name: "b", Versioning: enabled}}, Next: next}
			got, r := check(t, s, o, 0)
			if r.Err != api.OK || got.Next != next+1 || got.Versions[0].Order != next || !model.Right(got) {
				t.Errorf("behind %d: %s %s", next, showResult(r), show(got))
			}
		}
	}
	// Behind the greatest number there is none: nothing comes, and nothing goes.
	for versioning := range 3 {
		s := api.State{Buckets: []api.Bucket{{Name: "b", Versioning: versioning}}, Versions: []api.Version{{Bucket: "b", Key: "k"}}, Uploads: []api.Upload{{Bucket: "b", Key: "k", Id: 1, Parts: []api.Part{{N: 1}}}}, Next: 1<<64 - 1}
		for _, o := range []api.Op{{Kind: 7}, {Kind: 9}, {Kind: 15, Version: 1, Parts: []int{1}}} {
			if o.Kind == 9 && versioning == off {
				continue
			}
			o.Bucket, o.Key, o.Draw = "b", "k", 1
			got, r := model.Step(s, o, 0)
			if r.Err == api.OK || !sameSays(got, s) || !model.Right(got) {
				t.Errorf("%s %s", showResult(r), show(got))
			}
		}
	}
}

func TestGet(t *testing.T) {
	latest := func(bucket, key string) api.Op { return api.Op{Kind: 8, Bucket: bucket, Key: key} }
	named := func(bucket, key string, id uint64) api.Op {
		return api.Op{Kind: 8, Bucket: bucket, Key: key, Has: true, Version: id}
	}
	is := func(id uint64, data string) api.Result { return api.Result{Version: id, Data: []byte(data)} }
	kept := func(r api.Result, keep api.Retain, hold bool) api.Result {
		r.R, r.Hold = keep, hold
		return r
	}
	noKey, noVersion, marker := err(api.ErrKey), err(api.ErrVersion), err(api.ErrMarker)
	fromEach(t, rich, []turn{
		{latest("off", "k"), is(0, "plain"), nil}, {latest("off", "l"), is(0, "also"), nil}, {latest("susp", "k"), is(0, "null"), nil}, {latest("code", "l"), is(7, "latest"), nil},
		{latest("lock", "k"), kept(is(10, "held"), keep(0, 0), true), nil}, {latest("lock", "l"), kept(is(7, ""), keep(2, 500), false), nil}, {latest("-def", "k"), kept(is(7, "by default"), keep(2, 86500), false), nil},
		{latest("code", "k"), noKey, nil}, {latest("lock", "m"), noKey, nil}, {latest("susp", "n"), noKey, nil}, {latest("off", "x"), noKey, nil}, {latest("off", ""), noKey, nil}, {latest("off", "a b"), noKey, nil}, {latest("off", "m"), noKey, nil}, {latest("nosuch", "k"), err(api.ErrBucket), nil},
		{named("off", "k", 0), is(0, "plain"), nil}, {named("code", "k", 7), is(7, "first"), nil}, {named("code", "k", 0), is(0, "without id"), nil}, {named("susp", "k", 5), is(5, "old"), nil}, {named("susp", "k", 0), is(0, "null"), nil}, {named("susp", "n", 3), is(3, "n"), nil},
		{named("lock", "k", 7), is(7, "locked"), nil}, {named("lock", "k", 8), kept(is(8, "compliance"), keep(2, 2000), false), nil}, {named("lock", "k", 9), kept(is(9, "governance"), keep(1, 2000), false), nil}, {named("lock", "k", 10), kept(is(10, "held"), keep(0, 0), true), nil},
		{named("code", "k", 8), marker, nil}, {named("lock", "m", 7), marker, nil}, {named("susp", "n", 0), marker, nil},
		{named("off", "k", 1), noVersion, nil}, {named("code", "k", 9), noVersion, nil}, {named("code", "l", 0), noVersion, nil}, {named("code", "l", 8), noVersion, nil}, {named("off", "x", 0), noVersion, nil}, {named("off", "", 0), noVersion, nil}, {named("lock", "k", 1<<63), noVersion, nil}, {named("lock", "k", 7+1<<32), noVersion, nil}, {named("nosuch", "k", 7), err(api.ErrBucket), nil},
		// without Has a version is not named
		{api.Op{Kind: 8, Bucket: "code", Key: "l", Version: 99, Draw: 1, Data: ofSize(1537), R: keep(9, 9), Hold: true}, is(7, "latest"), nil},
	})
}

func TestDelete(t *testing.T) {
	op := func(bucket, key string, draw uint64) api.Op {
		return api.Op{Kind: 9, Bucket: bucket, Key: key, Draw: draw}
	}
	mark := func(bucket, key string, id uint64) api.Version {
		return api.Version{Bucket: bucket, Key: key, Id: id, Marker: true}
	}
	is := func(id uint64) api.Result { return api.Result{Version: id, Marker: true} }
	draw, name := err(api.ErrDraw), err(api.ErrName)
	fromEach(t, rich, []turn{
		{op("off", "k", 0), api.Result{}, goes(2)}, {op("off", "l", 9), api.Result{}, goes(14)}, {op("off", "x", 9), api.Result{}, nil}, {op("off", "m", 0), api.Result{}, nil},
		{op("susp", "k", 0), is(0), comes(mark("susp", "k", 0), 10)}, {op("susp", "k", 5), is(0), comes(mark("susp", "k", 0), 10)}, {op("susp", "n", 9), is(0), comes(mark("susp", "n", 0), 13)}, {op("susp", "x", 9), is(0), comes(mark("susp", "x", 0))},
		{op("code", "k", 9), is(9), comes(mark("code", "k", 9))}, {op("code", "l", 8), is(8), comes(mark("code", "l", 8))}, {op("code", "x", 7), is(7), comes(mark("code", "x", 7))}, {op("lock", "k", 11), is(11), comes(mark("lock", "k", 11))}, {op("-def", "k", 8), is(8), comes(mark("-def", "k", 8))}, {op("-def", "x", 1<<64-1), is(1<<64 - 1), comes(mark("-def", "x", 1<<64-1))},
		{op("code", "k", 0), draw, nil}, {op("code", "k", 7), draw, nil}, {op("code", "k", 8), draw, nil}, {op("code", "x", 0), draw, nil}, {op("lock", "k", 10), draw, nil}, {op("-def", "k", 7), draw, nil},
		{op("off", "", 0), name, nil}, {op("off", "a b", 0), name, nil}, {op("susp", strings.Repeat("k", 49), 0), name, nil}, {op("code", "\x7f", 0), name, nil}, {op("nosuch", "", 0), err(api.ErrBucket), nil},
		{op("off", strings.Repeat("k", 48), 0), api.Result{}, nil},
		// a marker is neither kept nor held, and asks for no code
		{api.Op{Kind: 9, Bucket: "-def", Key: "x", Draw: 3, R: keep(2, 5000), Hold: true, Data: ofSize(1537), Version: 7}, is(3), comes(mark("-def", "x", 3))}, {api.Op{Kind: 9, Bucket: "off", Key: "k", R: keep(9, 9), Hold: true}, api.Result{}, goes(2)},
	})
}

func TestDeleteNamed(t *testing.T) {
	op := func(bucket, key string, id uint64) api.Op {
		return api.Op{Kind: 9, Bucket: bucket, Key: key, Has: true, Version: id}
	}
	code := func(o api.Op) api.Op { o.Code = true; return o }
	bypass := func(o api.Op) api.Op { o.Bypass = true; return o }
	is := func(id uint64, marker bool) api.Result { return api.Result{Version: id, Marker: marker} }
	noVersion, mfa, locked, held := err(api.ErrVersion), err(api.ErrMfa), err(api.ErrLocked), err(api.ErrHold)
	fromEach(t, rich, []turn{
		{op("off", "k", 0), is(0, false), goes(2)}, {op("susp", "k", 0), is(0, false), goes(10)}, {op("susp", "k", 5), is(5, false), goes(3)}, {op("susp", "n", 0), is(0, true), goes(13)}, {op("susp", "n", 3), is(3, false), goes(12)},
		{op("lock", "k", 7), is(7, false), goes(1)}, {op("lock", "l", 7), is(7, false), goes(7)}, {op("lock", "m", 7), is(7, true), goes(11)}, {bypass(op("lock", "k", 7)), is(7, false), goes(1)}, {code(op("lock", "k", 7)), is(7, false), goes(1)},
		{op("lock", "k", 8), locked, nil}, {bypass(op("lock", "k", 8)), locked, nil}, {bypass(code(op("lock", "k", 8))), locked, nil}, {op("lock", "k", 9), locked, nil}, {code(op("lock", "k", 9)), locked, nil}, {bypass(op("lock", "k", 9)), is(9, false), goes(5)}, {op("lock", "k", 10), held, nil}, {bypass(op("lock", "k", 10)), held, nil}, {bypass(code(op("-def", "k", 7))), locked, nil},
		{op("code", "k", 7), mfa, nil}, {bypass(op("code", "k", 7)), mfa, nil}, {code(op("code", "k", 7)), is(7, false), goes(0)}, {op("code", "k", 0), mfa, nil}, {code(op("code", "k", 0)), is(0, false), goes(8)}, {op("code", "k", 8), mfa, nil}, {code(op("code", "k", 8)), is(8, true), goes(9)}, {op("code", "k", 9), noVersion, nil}, {code(op("code", "k", 9)), noVersion, nil},
		{op("off", "k", 1), noVersion, nil}, {op("off", "x", 0), noVersion, nil}, {op("lock", "k", 0), noVersion, nil}, {op("lock", "k", 8+1<<32), noVersion, nil}, {op("code", "l", 8), noVersion, nil},
		{op("off", "", 0), err(api.ErrName), nil}, {op("code", "a b", 7), err(api.ErrName), nil}, {op("nosuch", "", 0), err(api.ErrBucket), nil},
		// the operation's own Mfa asks for nothing, and a draw is none
		{api.Op{Kind: 9, Bucket: "off", Key: "k", Has: true, Mfa: true, Draw: 7, R: keep(9, 9), Hold: true}, is(0, false), goes(2)},
	})
	// The bucket's code is asked for ahead of what is kept.
	both := func() api.State {
		s := rich()
		s.Buckets[2].Mfa = true
		return s
	}
	fromEach(t, both, []turn{{op("lock", "k", 8), mfa, nil}, {op("lock", "k", 10), mfa, nil}, {op("lock", "k", 7), mfa, nil}, {op("lock", "k", 99), noVersion, nil}, {code(op("lock", "k", 8)), locked, nil}, {code(op("lock", "k", 10)), held, nil}, {code(op("lock", "k", 9)), locked, nil}, {code(bypass(op("lock", "k", 9))), is(9, false), goes(5)}, {code(op("lock", "k", 7)), is(7, false), goes(1)}})
	// What is kept is asked for at the clock, as it is told, or was.
	for _, c := range []struct {
		clock, now uint64
		want       api.Errno
	}{{1000, 1999, api.ErrLocked}, {1000, 2000, api.OK}, {1999, 0, api.ErrLocked}, {2000, 0, api.OK}, {1000, 1<<64 - 1, api.OK}, {1999, 1999, api.ErrLocked}, {maxTime, 5, api.OK}} {
		for _, id := range []uint64{8, 9} {
			s := rich()
			s.Clock = c.clock
			got, r := check(t, s, op("lock", "k", id), c.now)
			if r.Err != c.want || len(got.Versions) != 17-map[api.Errno]int{api.OK: 1}[c.want] {
				t.Errorf("at %d, told %d: %s", c.clock, c.now, showResult(r))
			}
		}
	}
}

func TestRetain(t *testing.T) {
	op := func(key string, id uint64, r api.Retain) api.Op {
		return api.Op{Kind: 10, Bucket: "lock", Key: key, Has: true, Version: id, R: r}
	}
	latest := func(bucket, key string, r api.Retain) api.Op {
		return api.Op{Kind: 10, Bucket: bucket, Key: key, R: r}
	}
	bypass := func(o api.Op) api.Op { o.Bypass = true; return o }
	ok := func(id uint64) api.Result { return api.Result{Version: id} }
	set := func(at int, r api.Retain) func(s *api.State) {
		return is(at, func(v *api.Version) { v.R = r })
	}
	none := api.Retain{}
	state, locked, noLock := err(api.ErrState), err(api.ErrLocked), err(api.ErrNoLock)
	fromEach(t, rich, []turn{
		{op("k", 7, keep(1, 1001)), ok(7), set(1, keep(1, 1001))}, {op("k", 7, keep(2, maxTime)), ok(7), set(1, keep(2, maxTime))}, {op("k", 7, none), ok(7), nil}, {op("k", 10, keep(2, 5000)), ok(10), set(6, keep(2, 5000))},
		{op("k", 8, keep(2, 2000)), ok(8), nil}, {op("k", 8, keep(2, 2001)), ok(8), set(4, keep(2, 2001))}, {op("k", 8, keep(2, 1999)), locked, nil}, {bypass(op("k", 8, keep(2, 1999))), locked, nil}, {op("k", 8, keep(1, 9000)), locked, nil}, {bypass(op("k", 8, keep(1, 9000))), locked, nil}, {op("k", 8, none), locked, nil}, {bypass(op("k", 8, none)), locked, nil},
		{op("k", 9, keep(1, 2000)), ok(9), nil}, {op("k", 9, keep(1, 2001)), ok(9), set(5, keep(1, 2001))}, {op("k", 9, keep(2, 2000)), ok(9), set(5, keep(2, 2000))}, {op("k", 9, keep(2, 1999)), locked, nil}, {op("k", 9, none), locked, nil}, {bypass(op("k", 9, none)), ok(9), set(5, none)}, {bypass(op("k", 9, keep(1, 1001))), ok(9), set(5, keep(1, 1001))},
		{op("l", 7, none), ok(7), set(7, none)}, {op("l", 7, keep(1, 1001)), ok(7), set(7, keep(1, 1001))},
		{op("k", 7, keep(1, 1000)), state, nil}, {op("k", 7, keep(2, maxTime+1)), state, nil}, {op("k", 7, keep(0, 5)), state, nil}, {op("k", 7, keep(3, 5000)), state, nil}, {op("k", 8, keep(-1, 5000)), state, nil}, {bypass(op("k", 8, keep(2, 1000))), state, nil},
		{op("m", 7, keep(1, 5000)), err(api.ErrMarker), nil}, {op("m", 7, keep(9, 5000)), err(api.ErrMarker), nil}, {op("k", 11, keep(1, 5000)), err(api.ErrVersion), nil}, {op("x", 7, keep(9, 5000)), err(api.ErrVersion), nil}, {op("a b", 7, none), err(api.ErrVersion), nil},
		{latest("lock", "k", keep(1, 5000)), ok(10), set(6, keep(1, 5000))}, {latest("lock", "l", keep(1, 5000)), ok(7), set(7, keep(1, 5000))}, {latest("-def", "k", keep(2, 86499)), locked, nil}, {latest("-def", "k", keep(2, 86501)), ok(7), set(16, keep(2, 86501))},
		{latest("lock", "m", keep(1, 5000)), err(api.ErrKey), nil}, {latest("lock", "x", keep(9, 5000)), err(api.ErrKey), nil}, {latest("lock", "", none), err(api.ErrKey), nil}, {latest("lock", "k", keep(9, 5000)), state, nil},
		{latest("off", "k", keep(1, 5000)), noLock, nil}, {latest("code", "l", none), noLock, nil}, {latest("susp", "x", keep(9, 5)), noLock, nil}, {latest("nosuch", "k", none), err(api.ErrBucket), nil},
		// a hold is not set so
		{api.Op{Kind: 10, Bucket: "lock", Key: "k", Has: true, Version: 7, R: keep(1, 3000), Hold: true, Draw: 4}, ok(7), set(1, keep(1, 3000))},
	})
}

func TestHold(t *testing.T) {
	op := func(bucket, key string, has bool, id uint64, hold bool) api.Op {
		return api.Op{Kind: 11, Bucket: bucket, Key: key, Has: has, Version: id, Hold: hold}
	}
	ok := func(id uint64) api.Result { return api.Result{Version: id} }
	set := func(at int, hold bool) func(s *api.State) {
		return is(at, func(v *api.Version) { v.Hold = hold })
	}
	noLock := err(api.ErrNoLock)
	fromEach(t, rich, []turn{
		{op("lock", "k", true, 7, true), ok(7), set(1, true)}, {op("lock", "k", true, 7, false), ok(7), nil}, {op("lock", "k", true, 8, true), ok(8), set(4, true)}, {op("lock", "k", true, 10, true), ok(10), nil}, {op("lock", "k", true, 10, false), ok(10), set(6, false)},
		{op("lock", "k", false, 7, false), ok(10), set(6, false)}, {op("lock", "l", false, 0, true), ok(7), set(7, true)}, {op("-def", "k", false, 0, true), ok(7), set(16, true)},
		{op("lock", "m", true, 7, true), err(api.ErrMarker), nil}, {op("lock", "m", false, 7, true), err(api.ErrKey), nil}, {op("lock", "k", true, 11, true), err(api.ErrVersion), nil}, {op("lock", "x", false, 7, false), err(api.ErrKey), nil},
		{op("off", "k", false, 0, true), noLock, nil}, {op("off", "x", true, 9, false), noLock, nil}, {op("susp", "n", false, 0, true), noLock, nil}, {op("code", "l", true, 7, true), noLock, nil}, {op("nosuch", "k", false, 0, true), err(api.ErrBucket), nil},
		// retention is not set so, nor asked for
		{api.Op{Kind: 11, Bucket: "lock", Key: "k", Has: true, Version: 8, R: keep(9, 9), Hold: true}, ok(8), set(4, true)},
	})
}

// ofKeys: a state of one bucket with keys of so many versions each; and one of
// another bucket that no listing tells.
func ofKeys(counts map[string]int) api.State {
	s := api.State{Buckets: []api.Bucket{{Name: "b", Versioning: enabled}, {Name: "c", Versioning: enabled}}, Clock: 5}
	for round := range 200 {
		for _, key := range []string{"m", "b", "aa", "a", "~", "!", "ab", "B"} {
			if round < counts[key] {
				s.Versions = append(s.Versions, api.Version{Bucket: "b", Key: key, Id: uint64(round + 1), Order: s.Next, Data: []byte(key), Marker: false, Time: uint64(round % 5)}, api.Version{Bucket: "c", Key: key, Id: 1000 - uint64(round), Order: s.Next + 1})
				s.Next += 2
			}
		}
	}
	return s
}

// listed: keys and ids of what is listed, short.
func listed(r api.Result) string {
	text := ""
	for _, v := range r.Versions {
		text += fmt.Sprintf("%s%d ", v.Key, v.Id)
	}
	if r.More {
		text += "more"
	}
	return strings.TrimSpace(text)
}

func TestList(t *testing.T) {
	s := ofKeys(map[string]int{"a": 2, "aa": 1, "b": 3, "B": 1, "!": 2, "~": 1})
	for _, c := range []struct {
		n      int
		marker string
		want   string
	}{
		{100, "", "!2 !1 B1 a2 a1 aa1 b3 b2 b1 ~1"}, {10, "", "!2 !1 B1 a2 a1 aa1 b3 b2 b1 ~1"}, {9, "", "!2 !1 B1 a2 a1 aa1 b3 b2 b1 more"}, {8, "", "!2 !1 B1 a2 a1 aa1 more"}, {7, "", "!2 !1 B1 a2 a1 aa1 more"}, {6, "", "!2 !1 B1 a2 a1 aa1 more"}, {5, "", "!2 !1 B1 a2 a1 more"}, {4, "", "!2 !1 B1 more"}, {3, "", "!2 !1 B1 more"}, {2, "", "!2 !1 more"},
		// the first key at any rate
		{1, "", "!2 !1 more"}, {1, "aa", "b3 b2 b1 more"}, {2, "aa", "b3 b2 b1 more"}, {3, "aa", "b3 b2 b1 more"}, {4, "aa", "b3 b2 b1 ~1"}, {1, "b", "~1"}, {1, "!", "B1 more"}, {2, "B", "a2 a1 more"}, {1, "a", "aa1 more"},
		// markers that are keys, between them, behind them, and no keys at all
		{100, "a", "aa1 b3 b2 b1 ~1"}, {100, "a!", "aa1 b3 b2 b1 ~1"}, {100, "aa", "b3 b2 b1 ~1"}, {100, "aaa", "b3 b2 b1 ~1"}, {100, "b", "~1"}, {100, "c", "~1"}, {100, "}", "~1"}, {100, "~", ""}, {100, "~~", ""}, {100, "\xff", ""}, {1, "\x7f", ""}, {100, " ", "!2 !1 B1 a2 a1 aa1 b3 b2 b1 ~1"}, {100, "\x00", "!2 !1 B1 a2 a1 aa1 b3 b2 b1 ~1"}, {100, "A", "B1 a2 a1 aa1 b3 b2 b1 ~1"}, {100, strings.Repeat("a", 100), "b3 b2 b1 ~1"},
	} {
		_, r := check(t, s, api.Op{Kind: 12, Bucket: "b", N: c.n, Marker: c.marker}, 5)
		if got := listed(r); got != c.want || r.Err != api.OK {
			t.Errorf("%d behind %q: %s, not %s", c.n, c.marker, got, c.want)
		}
		for _, v := range r.Versions {
			if len(v.Data) != 0 || v.Bucket != "b" {
				t.Errorf("%d behind %q: with data: %s", c.n, c.marker, showVersion(v))
			}
		}
	}
	for _, n := range []int{0, -1, 101, 102, 1 << 32, 1<<32 + 1, -1 << 63, 1<<63 - 1, 256 + 1} {
		for _, marker := range []string{"", "a"} {
			fromEach(t, func() api.State { return s }, []turn{{api.Op{Kind: 12, Bucket: "b", N: n, Marker: marker}, err(api.ErrArg), nil}, {api.Op{Kind: 12, Bucket: "nosuch", N: n, Marker: marker}, err(api.ErrBucket), nil}})
		}
	}
}

// A version in a listing is as it is, but without data; a bucket without
// versions has none; the key of the operation counts for nothing.
func TestListTellsAll(t *testing.T) {
	s := rich()
	of := func(at ...int) api.Result {
		var r api.Result
		for _, i := range at {
			v := s.Versions[i]
			v.Data = nil
			r.Versions = append(r.Versions, v)
		}
		return r
	}
	more := func(r api.Result) api.Result { r.More = true; return r }
	op := func(bucket string, n int, marker string) api.Op {
		return api.Op{Kind: 12, Bucket: bucket, N: n, Marker: marker, Key: "k", Has: true, Version: 7}
	}
	fromEach(t, rich, []turn{
		{op("lock", 100, ""), of(6, 5, 4, 1, 7, 11), nil}, {op("lock", 5, ""), more(of(6, 5, 4, 1, 7)), nil}, {op("lock", 1, ""), more(of(6, 5, 4, 1)), nil}, {op("lock", 1, "k"), more(of(7)), nil}, {op("lock", 2, "k"), of(7, 11), nil}, {op("code", 100, ""), of(9, 8, 0, 15), nil}, {op("code", 3, ""), more(of(9, 8, 0)), nil}, {op("susp", 100, ""), of(10, 3, 13, 12), nil}, {op("off", 2, ""), of(2, 14), nil}, {op("off", 1, ""), more(of(2)), nil}, {op("-def", 1, ""), of(16), nil},
	})
	fromEach(t, func() api.State { return fullOf(8, 0) }, []turn{{op("t0", 1, ""), api.Result{}, nil}, {op("t1", 100, ""), api.Result{}, nil}, {op("t2", 0, ""), err(api.ErrArg), nil}})
}

// Keys of as many versions as a listing has, and of more.
func TestListOfManyVersions(t *testing.T) {
	for _, count := range []int{1, 99, 100, 101, 150} {
		s := ofKeys(map[string]int{"a": count, "b": 1, "m": 99})
		for _, n := range []int{1, 2, 98, 99, 100} {
			for _, marker := range []string{"", "a", "b", "m"} {
				check(t, s, api.Op{Kind: 12, Bucket: "b", N: n, Marker: marker}, 5)
			}
		}
		_, r := model.Step(s, api.Op{Kind: 12, Bucket: "b", N: 100}, 5)
		want, more := count, true
		if count+1 <= 100 {
			want = count + 1
		}
		if count == 1 {
			want = 2
		}
		if len(r.Versions) != want || r.More != more {
			t.Errorf("of %d versions: %d, more %t", count, len(r.Versions), r.More)
		}
	}
}

// One listing behind another comes to all that is there.
func TestListGoesOn(t *testing.T) {
	s := ofKeys(map[string]int{"a": 2, "aa": 1, "b": 3, "B": 1, "!": 2, "~": 1, "m": 7})
	_, all := model.Step(s, api.Op{Kind: 12, Bucket: "b", N: 100}, 5)
	for n := 1; n <= 18; n++ {
		var r, got api.Result
		for calls := 0; calls == 0 || r.More; calls++ {
			_, r = model.Step(s, api.Op{Kind: 12, Bucket: "b", N: n, Marker: last(r)}, 5)
			got.Versions = append(got.Versions, r.Versions...)
			if len(r.Versions) == 0 || calls > 20 {
				t.Fatalf("%d at a time: it does not go on", n)
			}
		}
		if listed(got) != listed(all) || all.More {
			t.Errorf("%d at a time: %s", n, listed(got))
		}
	}
}

func TestSweep(t *testing.T) {
	at := func(now uint64) func() api.State {
		return func() api.State {
			s := rich()
			s.Clock = now
			return s
		}
	}
	op := api.Op{Kind: 17}
	gone := func(at ...int) (api.Result, func(s *api.State)) {
		var r api.Result
		for _, i := range at {
			v := rich().Versions[i]
			v.Data = nil
			r.Versions = append(r.Versions, v)
		}
		return r, func(s *api.State) {
			var left []api.Version
			for i, v := range s.Versions {
				if !slices.Contains(at, i) {
					left = append(left, v)
				}
			}
			s.Versions = left
		}
	}
	for _, c := range []struct {
		now  uint64
		gone []int
	}{
		// by their times: version i is of 100 and its order
		{1000, nil}, {day + 99, nil}, {day + 100, []int{0}}, {day + 101, []int{0, 1}}, {day + 102, []int{0, 1, 2}}, {day + 104, []int{0, 1, 2}}, {day + 105, []int{0, 1, 4, 2}}, {day + 106, []int{0, 1, 4, 5, 2}}, {day + 108, []int{0, 1, 4, 5, 2}},
		{day + 109, []int{0, 8, 1, 4, 5, 2}}, {day + 115, []int{0, 8, 1, 4, 5, 2}}, {day + 116, []int{0, 8, 1, 4, 5, 2, 14}}, {2*day + 103, []int{0, 8, 1, 4, 5, 2, 14}}, {2*day + 104, []int{0, 8, 1, 4, 5, 2, 14, 3}}, {2*day + 114, []int{0, 8, 1, 4, 5, 2, 14, 3, 12}}, {maxTime, []int{0, 8, 1, 4, 5, 2, 14, 3, 12}},
	} {
		want, leaves := gone(c.gone...)
		fromEach(t, at(c.now), []turn{{op, want, leaves}, {api.Op{Kind: 17, Bucket: "nosuch", Key: "a b", N: -1, Bypass: true, Code: true}, want, leaves}})
	}
	// Told at the time that comes with the operation; what is held stays.
	s := rich()
	s.Versions[4].Hold = true
	got, r := model.Step(s, op, day+105)
	if want := "k7 k7 k0"; listed(r) != want || len(got.Versions) != 14 || got.Clock != day+105 {
		t.Errorf("%s, not %s", listed(r), want)
	}
	if _, again := model.Step(got, op, day+105); len(again.Versions) != 0 || again.Err != api.OK {
		t.Errorf("swept again: %s", listed(again))
	}
}

// last: the key behind which a listing goes on.
func last(r api.Result) string {
	if len(r.Versions) == 0 {
		return ""
	}
	return r.Versions[len(r.Versions)-1].Key
}
