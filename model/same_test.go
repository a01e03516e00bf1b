package model_test

import (
	"math"
	"slices"
	"testing"

	"stele/api"
	"stele/model"
)

// P1801

// fields: each changes one field of rich's first and last bucket, version,
// upload and part, or of the state itself.
func fields() []func(s *api.State) {
	l := []func(s *api.State){
		func(s *api.State) { s.Clock++ }, func(s *api.State) { s.Next++ }, func(s *api.State) { s.Clock |= 1 << 63 }, func(s *api.State) { s.Next |= 1 << 63 },
		func(s *api.State) { s.Buckets = s.Buckets[1:] }, func(s *api.State) { s.Buckets = s.Buckets[:4] }, func(s *api.State) { s.Buckets = nil }, func(s *api.State) { s.Buckets[0], s.Buckets[1] = s.Buckets[1], s.Buckets[0] },
		func(s *api.State) { s.Versions = s.Versions[1:] }, func(s *api.State) { s.Versions = s.Versions[:16] }, func(s *api.State) { s.Versions = nil }, func(s *api.State) { s.Versions[0], s.Versions[1] = s.Versions[1], s.Versions[0] },
		func(s *api.State) { s.Uploads = s.Uploads[1:] }, func(s *api.State) { s.Uploads = s.Uploads[:4] }, func(s *api.State) { s.Uploads = nil }, func(s *api.State) { s.Uploads[0], s.Uploads[1] = s.Uploads[1], s.Uploads[0] },
		func(s *api.State) { s.Uploads[0].Parts = s.Uploads[0].Parts[1:] }, func(s *api.State) { s.Uploads[0].Parts = s.Uploads[0].Parts[:1] }, func(s *api.State) { s.Uploads[4].Parts = nil }, func(s *api.State) { s.Uploads[3].Parts = make([]api.Part, 1) },
	}
	for _, at := range []int{0, 4} {
		for _, of := range []func(b *api.Bucket){
			func(b *api.Bucket) { b.Name += "x" }, func(b *api.Bucket) { b.Versioning++ }, func(b *api.Bucket) { b.Lock = !b.Lock }, func(b *api.Bucket) { b.Mfa = !b.Mfa }, func(b *api.Bucket) { b.Default++ },
			func(b *api.Bucket) { b.Days++ }, func(b *api.Bucket) { b.Policy += ";" }, func(b *api.Bucket) { b.Expire++ }, func(b *api.Bucket) { b.Noncurrent++ }, func(b *api.Bucket) { b.Days += 1 << 32 },
		} {
			l = append(l, func(s *api.State) { of(&s.Buckets[at]) })
		}
	}
	for _, at := range []int{0, 9, 16} {
		for _, of := range []func(v *api.Version){
			func(v *api.Version) { v.Bucket += "x" }, func(v *api.Version) { v.Key += "x" }, func(v *api.Version) { v.Id++ }, func(v *api.Version) { v.Order++ }, func(v *api.Version) { v.Marker = !v.Marker }, func(v *api.Version) { v.Data = append(v.Data, 0) },
			func(v *api.Version) { v.Data = []byte("fIrst") }, func(v *api.Version) { v.R.Mode++ }, func(v *api.Version) { v.R.Until++ }, func(v *api.Version) { v.Hold = !v.Hold }, func(v *api.Version) { v.Time++ }, func(v *api.Version) { v.Id |= 1 << 63 },
		} {
			l = append(l, func(s *api.State) { of(&s.Versions[at]) })
		}
	}
	for _, at := range []int{0, 4} {
		for _, of := range []func(u *api.Upload){
			func(u *api.Upload) { u.Bucket += "x" }, func(u *api.Upload) { u.Key += "x" }, func(u *api.Upload) { u.Id++ }, func(u *api.Upload) { u.Time++ }, func(u *api.Upload) { u.Parts[0].N++ }, func(u *api.Upload) { u.Parts[0].Data = append(u.Parts[0].Data, 'x') },
			func(u *api.Upload) { u.Parts[len(u.Parts)-1].N++ }, func(u *api.Upload) { u.Parts[len(u.Parts)-1].Data = []byte("other") },
		} {
			l = append(l, func(s *api.State) { of(&s.Uploads[at]) })
		}
	}
	return l
}

func TestSameOfEachField(t *testing.T) {
	if !model.Same(rich(), rich()) || !model.Same(api.State{}, api.State{}) {
		t.Fatal("what is alike is not the same")
	}
	for i, of := range fields() {
		s, before := rich(), rich()
		of(&s)
		if model.Same(s, before) || model.Same(before, s) {
			t.Errorf("field %d does not matter:\n%s", i, show(s))
		}
		again := rich()
		of(&again)
		if !model.Same(s, again) {
			t.Errorf("with field %d changed it is not the same as itself", i)
		}
	}
	for i, of := range fields() {
		for j, other := range fields() {
			a, b := rich(), rich()
			of(&a)
			other(&b)
			if got := model.Same(a, b); got != sameSays(a, b) {
				t.Errorf("with fields %d, %d changed: %t", i, j, got)
			}
		}
	}
}

// A list without an element is nil or empty; spare room is no part of it.
func TestSameOfEmptyListsAndRoom(t *testing.T) {
	a := api.State{Versions: []api.Version{{Key: "k"}}, Uploads: []api.Upload{{Key: "k"}, {Parts: []api.Part{{N: 1}}}}}
	b := api.State{Buckets: []api.Bucket{}, Versions: []api.Version{{Key: "k", Data: []byte{}}}, Uploads: []api.Upload{{Key: "k", Parts: []api.Part{}}, {Parts: []api.Part{{N: 1, Data: []byte{}}}}}}
	none := api.State{Buckets: []api.Bucket{}, Versions: []api.Version{}, Uploads: []api.Upload{}}
	if !model.Same(a, b) || !model.Same(b, a) || !model.Same(none, api.State{}) || model.Same(a, none) {
		t.Error("nil lists are not the same as empty ones")
	}
	x, y := roomy(rich()), rich()
	before, beside := whole(x), whole(y)
	if !model.Same(x, y) || !model.Same(y, x) || whole(x) != before || whole(y) != beside {
		t.Error("spare room matters, or was changed")
	}
}

func TestSizeByHand(t *testing.T) {
	for _, c := range []struct {
		s    api.State
		want int
	}{
		{api.State{}, 0}, {api.State{Clock: 5, Next: 9}, 0}, {api.State{Clock: math.MaxUint64, Next: math.MaxUint64}, 0},
		{api.State{Buckets: make([]api.Bucket, 1)}, 1}, {api.State{Buckets: make([]api.Bucket, 3)}, 3}, {api.State{Versions: make([]api.Version, 2)}, 2}, {api.State{Uploads: make([]api.Upload, 4)}, 4},
		{api.State{Uploads: []api.Upload{{Parts: make([]api.Part, 3)}}}, 4}, {api.State{Uploads: []api.Upload{{Parts: make([]api.Part, 3)}, {Parts: make([]api.Part, 1)}}}, 6},
		{api.State{Buckets: []api.Bucket{{Name: "b", Policy: "allow a b c"}}, Versions: []api.Version{{Key: "k", Data: []byte("d")}}}, 3},
		{rich(), 5 + 17 + 13 + 5 + 5 + 4},
	} {
		if got := model.Size(c.s); got != c.want {
			t.Errorf("Size: %d, not %d, of\n%s", got, c.want, show(c.s))
		}
	}
}

func TestSizeOfData(t *testing.T) {
	for n, want := range map[int]int{0: 0, 1: 1, 2: 1, 511: 1, 512: 1, 513: 2, 1023: 2, 1024: 2, 1025: 3, 1535: 3, 1536: 3, 1537: 4, 6143: 12, 6144: 12, 6145: 13, 65536: 128, 65537: 129} {
		data := make([]byte, n)
		version := api.State{Versions: []api.Version{{Data: data}}}
		if got := model.Size(version); got != 1+want {
			t.Errorf("Size of a version of %d bytes: %d", n, got)
		}
		part := api.State{Uploads: []api.Upload{{Parts: []api.Part{{N: 1, Data: data}}}}}
		if got := model.Size(part); got != 2+want {
			t.Errorf("Size of a part of %d bytes: %d", n, got)
		}
		// Each data for itself, not all together; spare room is not counted.
		two := roomy(api.State{Versions: []api.Version{{Data: data}, {Data: []byte("x")}}, Uploads: []api.Upload{{Parts: []api.Part{{Data: []byte("y")}, {Data: data}}}}})
		before := whole(two)
		if got := model.Size(two); got != 2+1+2+2*want+2 || whole(two) != before {
			t.Errorf("Size of two versions and two parts, %d bytes: %d", n, got)
		}
	}
}

// Sizes of things apart come to the size of them together.
func TestSizeOfSums(t *testing.T) {
	s, sum := rich(), 0
	for i := range s.Buckets {
		sum += model.Size(api.State{Buckets: s.Buckets[i : i+1]})
	}
	for i := range s.Versions {
		sum += model.Size(api.State{Versions: s.Versions[i : i+1]})
	}
	for i := range s.Uploads {
		sum += model.Size(api.State{Uploads: s.Uploads[i : i+1]})
	}
	if got := model.Size(s); got != sum {
		t.Errorf("Size: %d, not %d", got, sum)
	}
	slices.Reverse(s.Versions)
	if got := model.Size(s); got != sum {
		t.Errorf("Size: %d, not %d, in another order", got, sum)
	}
}
