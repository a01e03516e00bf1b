package model_test

import (
	"fmt"
	"slices"
	"strings"
	"testing"

	"stele/api"
	"stele/model"
)

// P1802: the example, the clock, and operations on buckets.

// turn: an operation, what it answers, and how it changes the state, by hand.
type turn struct {
	o      api.Op
	want   api.Result
	leaves func(s *api.State)
}

// err: the answer that has nothing but an error.
func err(e api.Errno) api.Result { return api.Result{Err: e} }

// fromEach: each turn begins with the same state, at its clock.
func fromEach(t *testing.T, first func() api.State, turns []turn) {
	t.Helper()
	for _, c := range turns {
		s, want := first(), first()
		if c.leaves != nil {
			c.leaves(&want)
		}
		got, r := model.Step(s, c.o, s.Clock)
		if !sameResult(r, c.want) {
			t.Errorf("%s answers %s\nnot %s", showOp(c.o), showResult(r), showResult(c.want))
		}
		if !sameSays(got, want) {
			t.Errorf("%s leaves\n%s\nnot\n%s", showOp(c.o), show(got), show(want))
		}
		if !model.Right(got) {
			t.Errorf("%s leaves what is not right:\n%s", showOp(c.o), show(got))
		}
		if c.want.Err != api.OK && c.leaves != nil {
			t.Errorf("%s: what is refused changes nothing", showOp(c.o))
		}
	}
}

// The example of the chapter.
func TestExample(t *testing.T) {
	s, r := model.Step(api.State{}, api.Op{Kind: api.OpMakeBucket, Bucket: "b", Lock: true}, 1)
	if r.Err != api.OK {
		t.Fatal(r.Err)
	}
	s, r = model.Step(s, api.Op{Kind: api.OpPut, Bucket: "b", Key: "k", Data: []byte("data"), Draw: 5, R: api.Retain{Mode: api.Compliance, Until: 100}}, 2)
	if r.Err != api.OK || r.Version != 5 {
		t.Fatal(showResult(r))
	}
	drop := api.Op{Kind: api.OpDelete, Bucket: "b", Key: "k", Has: true, Version: 5, Bypass: true, Code: true}
	s, r = model.Step(s, drop, 50)
	if r.Err != api.ErrLocked || len(s.Versions) != 1 {
		t.Error(showResult(r))
	}
	s, r = model.Step(s, drop, 99)
	if r.Err != api.ErrLocked || len(s.Versions) != 1 {
		t.Error(showResult(r))
	}
	s, r = model.Step(s, drop, 100)
	if r.Err != api.OK || len(s.Versions) != 0 {
		t.Error(showResult(r))
	}
}

// The clock rises with each operation, done or refused, and with none it
// falls, or goes beyond the last time.
func TestClock(t *testing.T) {
	at := []struct{ clock, now, want uint64 }{
		{1000, 0, 1000}, {1000, 999, 1000}, {1000, 1000, 1000}, {1000, 1001, 1001}, {1000, 1 << 32, 1 << 32}, {1000, 1<<32 + 5, 1<<32 + 5},
		{1000, maxTime - 1, maxTime - 1}, {1000, maxTime, maxTime}, {1000, maxTime + 1, maxTime}, {1000, 1 << 63, maxTime}, {1000, 1<<64 - 1, maxTime},
		{maxTime - 1, maxTime - 2, maxTime - 1}, {maxTime - 1, maxTime + 1, maxTime}, {maxTime, 0, maxTime}, {maxTime, maxTime, maxTime}, {maxTime, maxTime + 1, maxTime}, {maxTime, 1<<64 - 1, maxTime},
	}
	for _, c := range at {
		for kind := -1; kind <= 20; kind++ {
			s := rich()
			s.Clock = c.clock
			got, r := model.Step(s, api.Op{Kind: kind, Bucket: "nosuch"}, c.now)
			if got.Clock != c.want {
				t.Errorf("kind %d at %d, told %d: the clock is %d", kind, c.clock, c.now, got.Clock)
			}
			if r.Err == api.OK {
				continue
			}
			s.Clock = c.want
			if !sameSays(got, s) || !sameResult(r, err(r.Err)) {
				t.Errorf("kind %d is refused and leaves\n%s", kind, show(got))
			}
		}
	}
	// What is new is of the clock, not of what was told.
	for _, c := range at {
		got, r := model.Step(api.State{Buckets: []api.Bucket{{Name: "b"}}, Clock: c.clock}, api.Op{Kind: api.OpPut, Bucket: "b", Key: "k"}, c.now)
		if r.Err != api.OK || got.Versions[0].Time != c.want {
			t.Errorf("put at %d, told %d: of %d", c.clock, c.now, got.Versions[0].Time)
		}
		got, r = model.Step(api.State{Buckets: []api.Bucket{{Name: "b"}}, Clock: c.clock}, api.Op{Kind: api.OpBegin, Bucket: "b", Key: "k", Draw: 1}, c.now)
		if r.Err != api.OK || got.Uploads[0].Time != c.want {
			t.Errorf("begun at %d, told %d: of %d", c.clock, c.now, got.Uploads[0].Time)
		}
	}
}

// Another Kind is refused, whatever else the operation has; OpAudit does
// nothing, whatever it has.
func TestKinds(t *testing.T) {
	full := api.Op{Bucket: "off", Key: "k", Has: true, Lock: true, Code: true, Bypass: true, N: 1, M: 1, Text: "allow a b c", Data: []byte("d"), Parts: []int{1}, Draw: 99}
	for _, kind := range []int{0, -1, 20, 21, 100, 256 + 7, -256 + 7, 1 << 32, 1<<32 + 7, -1 << 63, 1<<63 - 1} {
		for _, o := range []api.Op{{}, {Bucket: "off"}, {Bucket: "nosuch"}, full} {
			o.Kind = kind
			fromEach(t, rich, []turn{{o, err(api.ErrArg), nil}})
			fromEach(t, func() api.State { return api.State{} }, []turn{{o, err(api.ErrArg), nil}})
		}
	}
	for _, o := range []api.Op{{}, {Bucket: "off"}, {Bucket: "nosuch"}, {Bucket: "No Name"}, full} {
		o.Kind = 19
		fromEach(t, rich, []turn{{o, api.Result{}, nil}})
		o.Kind = 18
		fromEach(t, rich, []turn{{o, api.Result{Names: []string{"-def", "code", "lock", "off", "susp"}}, nil}})
		fromEach(t, func() api.State { return api.State{} }, []turn{{o, api.Result{}, nil}})
	}
}

// All kinds of a bucket ask for it ahead of all else.
func TestNoBucket(t *testing.T) {
	for kind := 2; kind <= 16; kind++ {
		for _, name := range []string{"", "nosuch", "of", "off0", "OFF", "b d", strings.Repeat("n", 17), "-", "z"} {
			for _, o := range []api.Op{{}, {Key: "k", N: 1, M: 1, Draw: 50, Code: true, Parts: []int{1}}, {Key: "bad key", N: -1, M: -1, Text: ";", Data: ofSize(1537), Has: true, Version: 9, R: api.Retain{Mode: 9}}} {
				o.Kind, o.Bucket = kind, name
				fromEach(t, rich, []turn{{o, err(api.ErrBucket), nil}})
			}
		}
	}
}

func TestMakeBucket(t *testing.T) {
	op := func(name string, lock bool) api.Op { return api.Op{Kind: 1, Bucket: name, Lock: lock} }
	comes := func(at int, b api.Bucket) func(s *api.State) {
		return func(s *api.State) { s.Buckets = slices.Insert(s.Buckets, at, b) }
	}
	long := "z123456789012345"
	fromEach(t, rich, []turn{
		{op("new", false), api.Result{}, comes(3, api.Bucket{Name: "new"})},
		{op("new", true), api.Result{}, comes(3, api.Bucket{Name: "new", Lock: true, Versioning: enabled})},
		{op("-", false), api.Result{}, comes(0, api.Bucket{Name: "-"})}, {op("-dee", true), api.Result{}, comes(0, api.Bucket{Name: "-dee", Lock: true, Versioning: enabled})}, {op("0", false), api.Result{}, comes(1, api.Bucket{Name: "0"})},
		{op(long, false), api.Result{}, comes(5, api.Bucket{Name: long})}, {op("of", false), api.Result{}, comes(3, api.Bucket{Name: "of"})}, {op("off0", false), api.Result{}, comes(4, api.Bucket{Name: "off0"})},
		// nothing else of the operation counts
		{api.Op{Kind: 1, Bucket: "new", Mfa: true, N: 1, M: 5, Text: "allow a b c", R: api.Retain{Mode: 2, Until: 2000}, Hold: true, Draw: 3, Key: "k"}, api.Result{}, comes(3, api.Bucket{Name: "new"})},
		{op("", false), err(api.ErrName), nil}, {op(long+"6", false), err(api.ErrName), nil}, {op("New", false), err(api.ErrName), nil}, {op("a b", true), err(api.ErrName), nil}, {op("a/", true), err(api.ErrName), nil},
		{op("off", false), err(api.ErrTwice), nil}, {op("off", true), err(api.ErrTwice), nil}, {op("-def", false), err(api.ErrTwice), nil}, {op("susp", false), err(api.ErrTwice), nil},
	})
	fromEach(t, func() api.State { return fullOf(7, 0) }, []turn{{op("zz", false), api.Result{}, comes(7, api.Bucket{Name: "zz"})}, {op("off", false), err(api.ErrTwice), nil}, {op("Z", false), err(api.ErrName), nil}})
	fromEach(t, func() api.State { return fullOf(8, 0) }, []turn{{op("zz", false), err(api.ErrBig), nil}, {op("a", true), err(api.ErrBig), nil}, {op("off", false), err(api.ErrTwice), nil}, {op("Z", false), err(api.ErrName), nil}})
	fromEach(t, func() api.State { return api.State{} }, []turn{{op("b", false), api.Result{}, comes(0, api.Bucket{Name: "b"})}})
}

// Buckets made in any order stand in that of their names.
func TestBucketsRise(t *testing.T) {
	for i := range 40 {
		var s api.State
		var names []string
		for j := range maxBuckets {
			name := fmt.Sprintf("b%d", (j*(2*i+1)+i)*7%101)
			var r api.Result
			if s, r = model.Step(s, api.Op{Kind: 1, Bucket: name, Lock: j%2 == 0}, 0); r.Err == api.OK {
				names = append(names, name)
			}
		}
		slices.Sort(names)
		if _, r := model.Step(s, api.Op{Kind: 18}, 0); !slices.Equal(r.Names, names) || !model.Right(s) {
			t.Errorf("%q, not %q", r.Names, names)
		}
	}
}

func TestDropBucket(t *testing.T) {
	op := func(name string) api.Op { return api.Op{Kind: 2, Bucket: name} }
	goes := func(at int) func(s *api.State) {
		return func(s *api.State) { s.Buckets = without(s.Buckets, at) }
	}
	fromEach(t, rich, []turn{{op("off"), err(api.ErrNotEmpty), nil}, {op("lock"), err(api.ErrNotEmpty), nil}, {op("-def"), err(api.ErrNotEmpty), nil}})
	fromEach(t, func() api.State { return fullOf(8, 0) }, []turn{{op("t0"), api.Result{}, goes(5)}, {op("t1"), api.Result{}, goes(6)}, {op("t2"), api.Result{}, goes(7)}})
	bare := func() api.State {
		s := rich()
		s.Versions, s.Uploads = nil, nil
		return s
	}
	fromEach(t, bare, []turn{{op("-def"), api.Result{}, goes(0)}, {op("lock"), api.Result{}, goes(2)}, {op("susp"), api.Result{}, goes(4)}})
	// A version alone, a marker alone, an upload alone keep it.
	for _, of := range []func(s *api.State){
		func(s *api.State) { s.Versions = []api.Version{{Bucket: "code", Key: "k"}} },
		func(s *api.State) { s.Versions = []api.Version{{Bucket: "code", Key: "k", Marker: true}} },
		func(s *api.State) {
			s.Versions = []api.Version{{Bucket: "off", Key: "k"}, {Bucket: "code", Key: "k", Id: 3, Order: 1}}
		},
		func(s *api.State) { s.Uploads = []api.Upload{{Bucket: "code", Key: "k", Id: 1}} },
		func(s *api.State) {
			s.Uploads = []api.Upload{{Bucket: "off", Key: "k", Id: 1}, {Bucket: "code", Key: "k", Id: 2}}
		},
	} {
		kept := func() api.State {
			s := bare()
			of(&s)
			return s
		}
		fromEach(t, kept, []turn{{op("code"), err(api.ErrNotEmpty), nil}, {op("lock"), api.Result{}, goes(2)}, {op("susp"), api.Result{}, goes(4)}})
	}
}

// to: the bucket at a place of rich is set so.
func to(at int, of func(b *api.Bucket)) func(s *api.State) {
	return func(s *api.State) { of(&s.Buckets[at]) }
}

func TestSetVersioning(t *testing.T) {
	op := func(name string, n int, mfa, code bool) api.Op {
		return api.Op{Kind: 3, Bucket: name, N: n, Mfa: mfa, Code: code}
	}
	is := func(n int, mfa bool) func(b *api.Bucket) {
		return func(b *api.Bucket) { b.Versioning, b.Mfa = n, mfa }
	}
	ok := api.Result{}
	state, mfa := err(api.ErrState), err(api.ErrMfa)
	fromEach(t, rich, []turn{
		{op("off", enabled, false, false), ok, to(3, is(enabled, false))}, {op("off", suspended, false, false), ok, to(3, is(suspended, false))}, {op("off", enabled, false, true), ok, to(3, is(enabled, false))}, {op("off", enabled, true, true), ok, to(3, is(enabled, true))}, {op("off", suspended, true, true), ok, to(3, is(suspended, true))},
		{op("off", enabled, true, false), mfa, nil}, {op("off", suspended, true, false), mfa, nil},
		{op("susp", enabled, false, false), ok, to(4, is(enabled, false))}, {op("susp", suspended, false, false), ok, to(4, is(suspended, false))},
		{op("code", enabled, false, false), mfa, nil}, {op("code", suspended, false, false), mfa, nil}, {op("code", enabled, true, false), mfa, nil}, {op("code", enabled, false, true), ok, to(1, is(enabled, false))}, {op("code", suspended, false, true), ok, to(1, is(suspended, false))}, {op("code", suspended, true, true), ok, to(1, is(suspended, true))},
		{op("lock", enabled, false, false), ok, to(2, is(enabled, false))}, {op("lock", enabled, true, true), ok, to(2, is(enabled, true))}, {op("lock", enabled, true, false), mfa, nil},
		{op("lock", suspended, false, false), state, nil}, {op("lock", suspended, true, true), state, nil}, {op("lock", suspended, true, false), state, nil},
		{op("off", off, false, false), state, nil}, {op("susp", off, false, true), state, nil}, {op("code", off, false, false), state, nil}, {op("code", 3, true, false), state, nil}, {op("off", -1, false, false), state, nil}, {op("off", 3, false, false), state, nil}, {op("off", 1<<32+1, false, false), state, nil},
		{op("nosuch", 3, true, false), err(api.ErrBucket), nil},
		// the rest of the operation does not count
		{api.Op{Kind: 3, Bucket: "off", N: enabled, M: 7, Lock: true, Text: "x", Key: "bad key"}, ok, to(3, is(enabled, false))},
	})
}

func TestSetDefault(t *testing.T) {
	op := func(name string, n, m int) api.Op { return api.Op{Kind: 4, Bucket: name, N: n, M: m} }
	is := func(n, m int) func(b *api.Bucket) { return func(b *api.Bucket) { b.Default, b.Days = n, m } }
	ok := api.Result{}
	state, noLock := err(api.ErrState), err(api.ErrNoLock)
	turns := []turn{
		{op("off", 1, 1), noLock, nil}, {op("off", 0, 0), noLock, nil}, {op("susp", 3, 0), noLock, nil}, {op("code", 2, -1), noLock, nil}, {op("nosuch", 1, 1), err(api.ErrBucket), nil},
		{op("lock", 0, 0), ok, to(2, is(0, 0))}, {op("-def", 0, 0), ok, to(0, is(0, 0))}, {op("-def", 1, 7), ok, to(0, is(1, 7))},
		{op("lock", 3, 1), state, nil}, {op("lock", -1, 1), state, nil}, {op("lock", 3, 0), state, nil}, {op("lock", -1, 0), state, nil}, {op("lock", 1<<32, 0), state, nil}, {op("lock", 1<<32+1, 1), state, nil},
		{op("lock", 0, 1), state, nil}, {op("lock", 0, -1), state, nil}, {op("lock", 0, maxDays), state, nil}, {op("lock", 0, 1<<32), state, nil},
		{api.Op{Kind: 4, Bucket: "lock", N: 2, M: 1, Mfa: true, Lock: false, R: api.Retain{Mode: 1}}, ok, to(2, is(2, 1))},
	}
	for mode := 1; mode <= 2; mode++ {
		for _, m := range []int{1, 2, 30, maxDays - 1, maxDays} {
			turns = append(turns, turn{op("lock", mode, m), ok, to(2, is(mode, m))})
		}
		for _, m := range []int{0, -1, maxDays + 1, 1 << 32, 1<<32 + 1, -1 << 63, 1<<63 - 1} {
			turns = append(turns, turn{op("lock", mode, m), state, nil}, turn{op("off", mode, m), noLock, nil})
		}
	}
	fromEach(t, rich, turns)
}

func TestSetPolicy(t *testing.T) {
	op := func(name, text string) api.Op { return api.Op{Kind: 5, Bucket: name, Text: text} }
	is := func(text string) func(b *api.Bucket) { return func(b *api.Bucket) { b.Policy = text } }
	ok, wrong := api.Result{}, err(api.ErrPolicy)
	longest := "allow " + strings.Repeat("w", 64) + " " + strings.Repeat("a", 64) + " " + strings.Repeat("r", 160-6-64-1-64-1)
	fromEach(t, rich, []turn{
		{op("off", "allow ann get b/*"), ok, to(3, is("allow ann get b/*"))}, {op("lock", ""), ok, to(2, is(""))}, {op("lock", "deny * delete *;allow a b c"), ok, to(2, is("deny * delete *;allow a b c"))}, {op("susp", longest), ok, to(4, is(longest))},
		{op("off", "allow"), wrong, nil}, {op("off", ";"), wrong, nil}, {op("off", "Allow a b c"), wrong, nil}, {op("off", "allow a b c;"), wrong, nil}, {op("off", " "), wrong, nil}, {op("off", "allow a  b c"), wrong, nil}, {op("off", longest+"r"), wrong, nil}, {op("off", "allow a b \xff"), wrong, nil},
		{op("nosuch", "allow"), err(api.ErrBucket), nil},
	})
}

func TestSetLifecycle(t *testing.T) {
	op := func(name string, n, m int) api.Op { return api.Op{Kind: 6, Bucket: name, N: n, M: m} }
	is := func(n, m int) func(b *api.Bucket) {
		return func(b *api.Bucket) { b.Expire, b.Noncurrent = n, m }
	}
	turns := []turn{{op("nosuch", -1, -1), err(api.ErrBucket), nil}}
	good, bad := []int{0, 1, 2, maxDays - 1, maxDays}, []int{-1, maxDays + 1, 1 << 32, 1<<32 + 1, -1 << 63, 1<<63 - 1}
	for at, name := range []string{"-def", "code", "lock", "off", "susp"} {
		for _, n := range good {
			for _, m := range good {
				turns = append(turns, turn{op(name, n, m), api.Result{}, to(at, is(n, m))})
			}
			for _, m := range bad {
				turns = append(turns, turn{op(name, n, m), err(api.ErrState), nil}, turn{op(name, m, n), err(api.ErrState), nil}, turn{op(name, m, m), err(api.ErrState), nil})
			}
		}
	}
	fromEach(t, rich, turns)
}
