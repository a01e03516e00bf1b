package model_test

import (
	"slices"
	"strings"
	"testing"

	"stele/api"
)

// P1802: operations on uploads.

func TestBegin(t *testing.T) {
	op := func(bucket, key string, draw uint64) api.Op {
		return api.Op{Kind: 13, Bucket: bucket, Key: key, Draw: draw}
	}
	comes := func(at int, bucket, key string, id uint64) func(s *api.State) {
		return func(s *api.State) {
			s.Uploads = slices.Insert(s.Uploads, at, api.Upload{Bucket: bucket, Key: key, Id: id, Time: 1000})
		}
	}
	ok := func(id uint64) api.Result { return api.Result{Version: id} }
	k48 := strings.Repeat("k", 48)
	draw, name := err(api.ErrDraw), err(api.ErrName)
	fromEach(t, rich, []turn{
		{op("off", "k", 1), ok(1), comes(0, "off", "k", 1)}, {op("off", "k", 4), ok(4), comes(2, "off", "k", 4)}, {op("lock", "x", 6), ok(6), comes(2, "lock", "x", 6)}, {op("susp", "k", 10), ok(10), comes(5, "susp", "k", 10)}, {op("-def", "k", 1<<64-1), ok(1<<64 - 1), comes(5, "-def", "k", 1<<64-1)}, {op("code", k48, 1<<32+2), ok(1<<32 + 2), comes(5, "code", k48, 1<<32+2)},
		// the id of a version of the key is none of an upload
		{op("lock", "k", 10), ok(10), comes(5, "lock", "k", 10)}, {op("code", "\x21\x7e", 5), ok(5), comes(2, "code", "\x21\x7e", 5)},
		{op("off", "k", 0), draw, nil}, {op("off", "k", 2), draw, nil}, {op("off", "x", 2), draw, nil}, {op("-def", "x", 3), draw, nil}, {op("lock", "k", 7), draw, nil}, {op("lock", "k", 8), draw, nil}, {op("lock", "k", 9), draw, nil},
		{op("off", "", 1), name, nil}, {op("off", k48+"k", 1), name, nil}, {op("off", "a b", 0), name, nil}, {op("off", "\x20", 2), name, nil}, {op("off", "\x7f", 1), name, nil}, {op("nosuch", "", 0), err(api.ErrBucket), nil},
		// what else the operation has, does not count
		{api.Op{Kind: 13, Bucket: "off", Key: "k", Draw: 1, Version: 9, Has: true, Data: ofSize(1537), N: 9, Parts: []int{9}, R: keep(9, 9), Hold: true}, ok(1), comes(0, "off", "k", 1)},
	})
	fromEach(t, func() api.State { return fullOf(5, 7) }, []turn{{op("off", "k", 1), ok(1), comes(0, "off", "k", 1)}, {op("off", "k", 22), ok(22), comes(7, "off", "k", 22)}, {op("off", "k", 20), draw, nil}})
	fromEach(t, func() api.State { return fullOf(5, 8) }, []turn{{op("off", "k", 1), err(api.ErrBig), nil}, {op("off", "k", 0), err(api.ErrBig), nil}, {op("code", "k", 2), err(api.ErrBig), nil}, {op("off", "", 1), name, nil}, {op("nosuch", "k", 1), err(api.ErrBucket), nil}})
}

// Operations on uploads name one by Id, bucket and key.
func TestNoUpload(t *testing.T) {
	for kind := 14; kind <= 16; kind++ {
		for _, o := range []api.Op{
			{Bucket: "off", Key: "k", Version: 0}, {Bucket: "off", Key: "k", Version: 1}, {Bucket: "off", Key: "k", Version: 3}, {Bucket: "off", Key: "x", Version: 2}, {Bucket: "lock", Key: "k", Version: 2}, {Bucket: "off", Key: "", Version: 2}, {Bucket: "off", Key: "a b", Version: 2},
			{Bucket: "code", Key: "k", Version: 9}, {Bucket: "code", Key: "l", Version: 8}, {Bucket: "off", Key: "k", Version: 2 + 1<<32}, {Bucket: "off", Key: "k", Draw: 2}, {Bucket: "susp", Key: "k", Version: 1<<64 - 1},
			{Bucket: "off", Key: "x", Version: 2, N: 9, Data: ofSize(1537), Parts: []int{9}, R: keep(9, 9), Hold: true},
		} {
			o.Kind = kind
			fromEach(t, rich, []turn{{o, err(api.ErrUpload), nil}})
		}
	}
}

func TestPart(t *testing.T) {
	op := func(n int, data string) api.Op {
		return api.Op{Kind: 14, Bucket: "off", Key: "k", Version: 2, N: n, Data: []byte(data)}
	}
	parts := func(l ...api.Part) func(s *api.State) {
		return func(s *api.State) { s.Uploads[0].Parts = l }
	}
	p := func(n int, data string) api.Part { return api.Part{N: n, Data: []byte(data)} }
	one, three := p(1, "one"), p(3, "three")
	big := string(ofSize(1536))
	fromEach(t, rich, []turn{
		{op(1, "new"), api.Result{}, parts(p(1, "new"), three)}, {op(2, "new"), api.Result{}, parts(one, p(2, "new"), three)}, {op(3, ""), api.Result{}, parts(one, p(3, ""))}, {op(4, big), api.Result{}, parts(one, three, p(4, big))},
		{op(0, "x"), err(api.ErrPart), nil}, {op(5, "x"), err(api.ErrPart), nil}, {op(-1, ""), err(api.ErrPart), nil}, {op(1<<32+1, ""), err(api.ErrPart), nil}, {op(0, big+"x"), err(api.ErrPart), nil}, {op(1, big+"x"), err(api.ErrBig), nil}, {op(2, strings.Repeat("x", 65536)), err(api.ErrBig), nil},
		// what else the operation has, does not count
		{api.Op{Kind: 14, Bucket: "code", Key: "k", Version: 8, N: 1, Draw: 9, R: keep(9, 9), Hold: true, Parts: []int{0}}, api.Result{}, func(s *api.State) { s.Uploads[3].Parts = []api.Part{{N: 1}} }},
		{api.Op{Kind: 14, Bucket: "code", Key: "l", Version: 9, N: 4, Data: []byte("x")}, api.Result{}, func(s *api.State) { s.Uploads[4].Parts = []api.Part{p(4, "x")} }},
	})
}

func TestComplete(t *testing.T) {
	op := func(bucket string, id uint64, draw uint64, parts ...int) api.Op {
		return api.Op{Kind: 15, Bucket: bucket, Key: "k", Version: id, Draw: draw, Parts: parts}
	}
	kept := func(o api.Op, r api.Retain, hold bool) api.Op {
		o.R, o.Hold = r, hold
		return o
	}
	ver := func(bucket string, id uint64, data string, r api.Retain, hold bool) api.Version {
		return api.Version{Bucket: bucket, Key: "k", Id: id, Data: []byte(data), R: r, Hold: hold}
	}
	// ends: the upload at a place goes too.
	ends := func(at int, more func(s *api.State)) func(s *api.State) {
		return func(s *api.State) {
			more(s)
			s.Uploads = without(s.Uploads, at)
		}
	}
	ok := func(id uint64) api.Result { return api.Result{Version: id} }
	none := api.Retain{}
	part, noLock, state, draw := err(api.ErrPart), err(api.ErrNoLock), err(api.ErrState), err(api.ErrDraw)
	fromEach(t, rich, []turn{
		{op("off", 2, 0, 1, 3), ok(0), ends(0, comes(ver("off", 0, "onethree", none, false), 2))}, {op("off", 2, 9, 1), ok(0), ends(0, comes(ver("off", 0, "one", none, false), 2))}, {op("off", 2, 0, 3), ok(0), ends(0, comes(ver("off", 0, "three", none, false), 2))},
		{op("susp", 7, 5, 1), ok(0), ends(2, comes(ver("susp", 0, "up", none, false), 10))}, {op("lock", 3, 11, 2), ok(11), ends(1, comes(ver("lock", 11, "two", none, false)))}, {op("lock", 3, 3, 2), ok(3), ends(1, comes(ver("lock", 3, "two", none, false)))},
		{kept(op("lock", 3, 11, 2), keep(1, 1001), false), ok(11), ends(1, comes(ver("lock", 11, "two", keep(1, 1001), false)))}, {kept(op("lock", 3, 11, 2), keep(2, maxTime), true), ok(11), ends(1, comes(ver("lock", 11, "two", keep(2, maxTime), true)))}, {kept(op("lock", 3, 11, 2), none, true), ok(11), ends(1, comes(ver("lock", 11, "two", none, true)))},
		{op("off", 2, 0), part, nil}, {op("off", 2, 0, 2), part, nil}, {op("off", 2, 0, 3, 1), part, nil}, {op("off", 2, 0, 1, 1), part, nil}, {op("off", 2, 0, 1, 2, 3), part, nil}, {op("off", 2, 0, 1, 3, 4), part, nil}, {op("off", 2, 0, 0, 1), part, nil}, {op("code", 8, 9, 1), part, nil}, {op("code", 8, 0), part, nil},
		{kept(op("off", 2, 0, 2), keep(9, 9), true), part, nil}, {kept(op("lock", 3, 0, 1), keep(9, 9), true), part, nil},
		{kept(op("off", 2, 0, 1), keep(1, 5000), false), noLock, nil}, {kept(op("off", 2, 0, 1), none, true), noLock, nil}, {kept(op("susp", 7, 0, 1), keep(9, 5000), true), noLock, nil}, {kept(op("off", 2, 0, 1), keep(0, 5), false), state, nil}, {kept(op("lock", 3, 0, 2), keep(1, 1000), false), state, nil}, {kept(op("lock", 3, 11, 2), keep(2, maxTime+1), true), state, nil}, {kept(op("lock", 3, 11, 2), keep(0, 1), false), state, nil},
		{op("lock", 3, 0, 2), draw, nil}, {op("lock", 3, 7, 2), draw, nil}, {kept(op("lock", 3, 10, 2), keep(1, 2000), false), draw, nil},
		// the operation's own data does not count
		{api.Op{Kind: 15, Bucket: "off", Key: "k", Version: 2, Parts: []int{1}, Data: ofSize(1537), N: 9, Has: true}, ok(0), ends(0, comes(ver("off", 0, "one", none, false), 2))},
	})
	// As many bytes as parts may have; a bucket's default; an empty part.
	whole := func() api.State {
		s := rich()
		s.Uploads = append(s.Uploads, api.Upload{Bucket: "-def", Key: "k", Id: 30}, api.Upload{Bucket: "-def", Key: "k", Id: 31, Parts: []api.Part{{N: 2}}})
		for n := 1; n <= 4; n++ {
			s.Uploads[5].Parts = append(s.Uploads[5].Parts, api.Part{N: n, Data: ofSize(1536)})
		}
		return s
	}
	data := strings.Repeat(string(ofSize(1536)), 4)
	fromEach(t, whole, []turn{
		{op("-def", 30, 40, 1, 2, 3, 4), ok(40), ends(5, comes(ver("-def", 40, data, keep(2, 1000+day), false)))}, {op("-def", 30, 40, 1, 2, 4), ok(40), ends(5, comes(ver("-def", 40, data[:3*1536], keep(2, 1000+day), false)))}, {op("-def", 31, 40, 2), ok(40), ends(6, comes(ver("-def", 40, "", keep(2, 1000+day), false)))}, {kept(op("-def", 30, 40, 1, 2, 3, 4), keep(1, 2000), true), ok(40), ends(5, comes(ver("-def", 40, data, keep(1, 2000), true)))},
		{op("-def", 30, 40, 1, 2, 3, 4, 5), part, nil}, {op("-def", 30, 0, 1), draw, nil}, {op("-def", 30, 7, 1), draw, nil},
	})
}

func TestAbort(t *testing.T) {
	ends := func(at int) func(s *api.State) {
		return func(s *api.State) { s.Uploads = without(s.Uploads, at) }
	}
	op := func(bucket, key string, id uint64) api.Op {
		return api.Op{Kind: 16, Bucket: bucket, Key: key, Version: id}
	}
	fromEach(t, rich, []turn{
		{op("off", "k", 2), api.Result{}, ends(0)}, {op("lock", "k", 3), api.Result{}, ends(1)}, {op("code", "k", 8), api.Result{}, ends(3)}, {op("code", "l", 9), api.Result{}, ends(4)},
		{api.Op{Kind: 16, Bucket: "lock", Key: "k", Version: 3, Draw: 1, Parts: []int{9}, Data: ofSize(1537), R: keep(9, 9), Hold: true, N: 9}, api.Result{}, ends(1)},
	})
	fromEach(t, func() api.State { return fullOf(5, 8) }, []turn{{op("off", "x", 22), api.Result{}, ends(7)}, {op("off", "x", 20), api.Result{}, ends(5)}})
}
