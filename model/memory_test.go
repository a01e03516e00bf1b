package model_test

import (
	"testing"

	"stele/api"
	"stele/model"
)

// P1802: what is handed in is not changed, nor kept; what is handed out is new
// memory, each list of it.

// ofEachKind: operations on rich of each kind, done and refused.
func ofEachKind() []api.Op {
	data := []byte("some data")
	return []api.Op{
		{Kind: 1, Bucket: "new", Lock: true}, {Kind: 1, Bucket: "-"}, {Kind: 1, Bucket: "off"}, {Kind: 2, Bucket: "t0"}, {Kind: 2, Bucket: "off"}, {Kind: 3, Bucket: "off", N: 1}, {Kind: 3, Bucket: "off", N: 3}, {Kind: 4, Bucket: "lock", N: 2, M: 1}, {Kind: 4, Bucket: "off"},
		{Kind: 5, Bucket: "off", Text: "allow a b c"}, {Kind: 5, Bucket: "off", Text: ";"}, {Kind: 6, Bucket: "off", N: 1, M: 1}, {Kind: 6, Bucket: "off", N: -1},
		{Kind: 7, Bucket: "off", Key: "k", Data: data}, {Kind: 7, Bucket: "susp", Key: "k", Data: data}, {Kind: 7, Bucket: "code", Key: "k", Data: data, Draw: 9}, {Kind: 7, Bucket: "code", Key: "k", Data: data}, {Kind: 7, Bucket: "-def", Key: "x", Data: data, Draw: 9, Hold: true},
		{Kind: 8, Bucket: "off", Key: "k"}, {Kind: 8, Bucket: "lock", Key: "k", Has: true, Version: 8}, {Kind: 8, Bucket: "off", Key: "x"}, {Kind: 8, Bucket: "lock", Key: "l"},
		{Kind: 9, Bucket: "off", Key: "k"}, {Kind: 9, Bucket: "susp", Key: "k"}, {Kind: 9, Bucket: "code", Key: "k", Draw: 9}, {Kind: 9, Bucket: "lock", Key: "k", Has: true, Version: 7}, {Kind: 9, Bucket: "lock", Key: "k", Has: true, Version: 8},
		{Kind: 10, Bucket: "lock", Key: "k", R: keep(2, 5000)}, {Kind: 10, Bucket: "lock", Key: "k", R: keep(9, 5000)}, {Kind: 11, Bucket: "lock", Key: "l", Hold: true}, {Kind: 11, Bucket: "off", Key: "l", Hold: true},
		{Kind: 12, Bucket: "lock", N: 100}, {Kind: 12, Bucket: "lock", N: 1}, {Kind: 12, Bucket: "lock"}, {Kind: 13, Bucket: "off", Key: "k", Draw: 1}, {Kind: 13, Bucket: "off", Key: "k", Draw: 90}, {Kind: 13, Bucket: "off", Key: "k"},
		{Kind: 14, Bucket: "off", Key: "k", Version: 2, N: 1, Data: data}, {Kind: 14, Bucket: "off", Key: "k", Version: 2, N: 2, Data: data}, {Kind: 14, Bucket: "off", Key: "k", Version: 2, N: 9, Data: data}, {Kind: 15, Bucket: "off", Key: "k", Version: 2, Parts: []int{1, 3}}, {Kind: 15, Bucket: "lock", Key: "k", Version: 3, Parts: []int{2}, Draw: 11}, {Kind: 15, Bucket: "lock", Key: "k", Version: 3, Parts: []int{3}, Draw: 11},
		{Kind: 16, Bucket: "off", Key: "k", Version: 2}, {Kind: 16, Bucket: "off", Key: "k", Version: 3}, {Kind: 17}, {Kind: 18}, {Kind: 19}, {Kind: 20}, {},
	}
}

// Nothing that is handed in is changed, spare room neither.
func TestStepChangesNothing(t *testing.T) {
	for _, o := range ofEachKind() {
		for _, now := range []uint64{0, 5000, 3 * day} {
			s, o := roomy(fullOf(7, 7)), roomyOp(o)
			before, asked := whole(s), wholeOp(o)
			got, r := model.Step(s, o, now)
			if whole(s) != before || wholeOp(o) != asked {
				t.Fatalf("%s changes what it was handed", showOp(o))
			}
			// Nor by what is done to what it handed out.
			scribble(got)
			scribbleResult(r)
			if whole(s) != before || wholeOp(o) != asked {
				t.Fatalf("%s hands out what it was handed", showOp(o))
			}
		}
	}
}

// Nothing that was handed in is kept.
func TestStepKeepsNothing(t *testing.T) {
	for _, o := range ofEachKind() {
		for _, now := range []uint64{0, 5000, 3 * day} {
			s, o := roomy(fullOf(7, 7)), roomyOp(o)
			want, w := stepSays(copied(s), o, now)
			want, w.Data = copied(want), append([]byte(nil), w.Data...)
			got, r := model.Step(s, o, now)
			scribble(s)
			scribbleOp(o)
			if !sameSays(got, want) || !sameResult(r, w) {
				t.Fatalf("%s keeps what it was handed", showOp(o))
			}
		}
	}
}

// apart: what each list of a state and an answer has, when it alone is written
// into, is all that changes.
func TestListsShareNothing(t *testing.T) {
	for _, o := range ofEachKind() {
		for _, now := range []uint64{0, 3 * day} {
			got, r := model.Step(fullOf(7, 7), o, now)
			before, answered := show(got), showResult(r)
			scribbleResult(r)
			if show(got) != before {
				t.Fatalf("%s: the answer and the state share", showOp(o))
			}
			got, r = model.Step(fullOf(7, 7), o, now)
			lists := dataOf(got)
			for i := range lists {
				texts := textsOf(lists)
				blot(lists[i])
				for j := range lists {
					if i != j && string(lists[j]) != texts[j] {
						t.Fatalf("%s: data %d and %d share", showOp(o), i, j)
					}
				}
			}
			scribble(got)
			if showResult(r) != answered {
				t.Fatalf("%s: the state and the answer share", showOp(o))
			}
		}
	}
}

// dataOf: the data of each version and part, and the spare room behind it.
func dataOf(s api.State) [][]byte {
	var l [][]byte
	for _, v := range s.Versions {
		l = append(l, all(v.Data))
	}
	for _, u := range s.Uploads {
		for _, p := range u.Parts {
			l = append(l, all(p.Data))
		}
	}
	return l
}

func textsOf(l [][]byte) []string {
	var texts []string
	for _, b := range l {
		texts = append(texts, string(b))
	}
	return texts
}

// Data that came in as pieces of one memory is apart in the state.
func TestDataOfOneMemory(t *testing.T) {
	data := []byte("one memory for all of it")
	s := rich()
	for i := range s.Versions {
		if !s.Versions[i].Marker {
			s.Versions[i].Data = data[:i+1]
		}
	}
	for i := range s.Uploads {
		for j := range s.Uploads[i].Parts {
			s.Uploads[i].Parts[j].Data = data[i:]
		}
	}
	s.Uploads[1].Parts = s.Uploads[0].Parts[:1]
	want := show(s)
	for _, kind := range []int{19, 20} {
		got, _ := model.Step(s, api.Op{Kind: kind}, 0)
		if show(got) != want {
			t.Fatalf("it is\n%s", show(got))
		}
		for i, l := 0, dataOf(got); i < len(l); i++ {
			texts := textsOf(l)
			blot(l[i])
			for j := range l {
				if i != j && string(l[j]) != texts[j] {
					t.Fatalf("data %d and %d share", i, j)
				}
			}
		}
		got.Uploads[0].Parts[0].N = 4
		if got.Uploads[1].Parts[0].N == 4 || show(s) != want {
			t.Error("parts share")
		}
	}
}

// States that are not right: nothing is promised but that the calls end, and
// change nothing that was handed in.
func TestEndsOfWhatIsNotRight(t *testing.T) {
	for i, c := range changes() {
		s := rich()
		c.of(&s)
		s = roomy(s)
		before := whole(s)
		for j, o := range ofEachKind() {
			if (i+j)%5 != 0 {
				continue
			}
			got, r := model.Step(s, o, []uint64{0, 3 * day, maxTime + 1}[j%3])
			if r.Err != api.OK && !sameResult(r, err(r.Err)) {
				t.Fatalf("%s answers %s", showOp(o), showResult(r))
			}
			scribble(got)
			scribbleResult(r)
			if whole(s) != before {
				t.Fatalf("%s changes what it was handed", showOp(o))
			}
		}
		model.Size(s)
		if !model.Same(s, s) {
			t.Error("it is not the same as itself")
		}
	}
}
