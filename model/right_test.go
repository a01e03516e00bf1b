package model_test

import (
	"fmt"
	"math"
	"slices"
	"strings"
	"testing"

	"stele/api"
	"stele/model"
)

// P1801

func TestNamesByHand(t *testing.T) {
	for s, want := range map[string]bool{
		"a": true, "z": true, "0": true, "9": true, "-": true, "abc-09": true, "--": true, "abcdefghijklmnop": true, "0123456789012345": true,
		"": false, "abcdefghijklmnopq": false, "01234567890123456": false, "A": false, "aB": false, "a_b": false, "a.b": false, "a/b": false, "a b": false, " a": false, "a\n": false, "\x00": false, "é": false, "\xff": false, "a\x80": false,
		strings.Repeat("a", 256): false, strings.Repeat("a", 257): false, strings.Repeat("a", 65536+3): false,
	} {
		if got := model.Name(s); got != want {
			t.Errorf("Name of %q: %t", s, got)
		}
	}
}

func TestKeysByHand(t *testing.T) {
	k48 := strings.Repeat("k", 48)
	for s, want := range map[string]bool{
		"k": true, "!": true, "~": true, "\x21\x7e": true, "a/b/c.txt": true, "A%Z": true, "//": true, k48: true, "%2f": true, "?*;": true, strings.Repeat("~", 48): true,
		"": false, k48 + "k": false, " ": false, "\x7f": false, "a b": false, "a ": false, " a": false, "a\x7f": false, "a\x00b": false, "k\n": false, "é": false, "\x80": false, "\xff": false, "\xa1": false,
		strings.Repeat("k", 256): false, strings.Repeat("k", 256+48): false, strings.Repeat("k", 65536+1): false,
	} {
		if got := model.Key(s); got != want {
			t.Errorf("Key of %q: %t", s, got)
		}
	}
}

// Every byte at every place of texts of all lengths near the limits.
func TestNamesAndKeysOfAllBytes(t *testing.T) {
	for _, n := range []int{0, 1, 2, 3, 15, 16, 17, 18, 47, 48, 49, 50} {
		for at := 0; at < max(n, 1); at++ {
			for c := range 256 {
				b := []byte(strings.Repeat("a", n))
				if n > 0 {
					b[at] = byte(c)
				}
				s := string(b)
				if got := model.Name(s); got != nameSays(s) {
					t.Fatalf("Name of %q: %t", s, got)
				}
				if got := model.Key(s); got != keySays(s) {
					t.Fatalf("Key of %q: %t", s, got)
				}
			}
		}
	}
}

// change: of a state; breaks: the condition of the words that it breaks alone,
// or none.
type change struct {
	breaks string
	of     func(s *api.State)
}

// bucketChanges: of the bucket at the place of "code" (1), "lock" (2), "off"
// (3), "susp" (4), "-def" (0).
func bucketChanges() []change {
	set := func(breaks string, at int, of func(b *api.Bucket)) change {
		return change{breaks, func(s *api.State) { of(&s.Buckets[at]) }}
	}
	l := []change{
		{"buckets", func(s *api.State) { *s = fullOf(9, 5) }},
		{"", func(s *api.State) { *s = fullOf(8, 5) }},
		{"names rise", func(s *api.State) { s.Buckets[3], s.Buckets[4] = s.Buckets[4], s.Buckets[3] }},
		{"names rise", func(s *api.State) { s.Buckets[0], s.Buckets[1] = s.Buckets[1], s.Buckets[0] }},
		{"names rise", func(s *api.State) { s.Buckets = append(s.Buckets, s.Buckets[4]) }},
		{"names rise", func(s *api.State) { s.Buckets = append(s.Buckets, api.Bucket{Name: "a"}) }},
		{"", func(s *api.State) { s.Buckets = append(s.Buckets, api.Bucket{Name: "susp0"}) }},
		{"", func(s *api.State) { s.Buckets = append(s.Buckets, api.Bucket{Name: "z234567890123456"}) }},
		{"name", func(s *api.State) { s.Buckets = append(s.Buckets, api.Bucket{Name: "z2345678901234567"}) }},
		{"name", func(s *api.State) { s.Buckets = append(s.Buckets, api.Bucket{Name: "z_"}) }},
		{"name", func(s *api.State) { s.Buckets = slices.Concat([]api.Bucket{{}}, s.Buckets) }},
		set("enabled with lock", 2, func(b *api.Bucket) { b.Versioning = suspended }),
		set("default without lock", 1, func(b *api.Bucket) { b.Default, b.Days = governance, 1 }),
		set("days of none", 1, func(b *api.Bucket) { b.Days = 1 }), set("days of none", 2, func(b *api.Bucket) { b.Days = 1 }), set("days of none", 2, func(b *api.Bucket) { b.Days = -1 }),
		set("days", 0, func(b *api.Bucket) { b.Days = 0 }), set("days", 0, func(b *api.Bucket) { b.Days = -1 }),
		set("", 1, func(b *api.Bucket) { b.Mfa = false }), set("", 2, func(b *api.Bucket) { b.Mfa = true }), set("", 3, func(b *api.Bucket) { b.Mfa = true }),
		set("", 0, func(b *api.Bucket) { b.Default = governance }),
		set("", 1, func(b *api.Bucket) { b.Versioning = suspended }), set("", 4, func(b *api.Bucket) { b.Versioning = enabled }),
	}
	for _, n := range []int{-1, 3, 4, math.MinInt, math.MaxInt, 1 << 32, 256 + 1} {
		l = append(l, set("versioning", 1, func(b *api.Bucket) { b.Versioning = n }), set("default", 0, func(b *api.Bucket) { b.Default = n }))
	}
	for _, n := range []int{1, 2, maxDays - 1, maxDays} {
		l = append(l, set("", 0, func(b *api.Bucket) { b.Days = n }))
	}
	for at := range 5 {
		for _, n := range []int{-1, maxDays + 1, math.MinInt, math.MaxInt, 1 << 32} {
			l = append(l, set("expire", at, func(b *api.Bucket) { b.Expire = n }), set("noncurrent", at, func(b *api.Bucket) { b.Noncurrent = n }))
		}
		for _, n := range []int{0, 1, maxDays - 1, maxDays} {
			l = append(l, set("", at, func(b *api.Bucket) { b.Expire = n }), set("", at, func(b *api.Bucket) { b.Noncurrent = n }))
		}
		for _, s := range []string{"allow", ";", "allow a b c;", " ", "allow a b " + strings.Repeat("r", 65), strings.Repeat("allow a b c;", 14) + "deny a b c"} {
			l = append(l, set("policy", at, func(b *api.Bucket) { b.Policy = s }))
		}
		l = append(l, set("", at, func(b *api.Bucket) { b.Policy = "" }), set("", at, func(b *api.Bucket) { b.Policy = "deny * * *;allow a b c" }))
	}
	for _, n := range []int{maxDays + 1, math.MaxInt, math.MinInt, 1<<32 + 1} {
		l = append(l, set("days", 0, func(b *api.Bucket) { b.Days = n }))
	}
	return l
}

// versionChanges: the versions' places are those of rich.
func versionChanges() []change {
	set := func(breaks string, at int, of func(v *api.Version)) change {
		return change{breaks, func(s *api.State) { of(&s.Versions[at]) }}
	}
	l := []change{
		{"orders rise", func(s *api.State) { s.Versions[0], s.Versions[1] = s.Versions[1], s.Versions[0] }},
		{"orders rise", func(s *api.State) { s.Versions[15], s.Versions[16] = s.Versions[16], s.Versions[15] }},
		{"next", func(s *api.State) { s.Next = 18 }}, {"next", func(s *api.State) { s.Next = 0 }}, {"", func(s *api.State) { s.Next = 19 }}, {"", func(s *api.State) { s.Next = math.MaxUint64 }},
		{"next", func(s *api.State) { s.Versions[16].Order = 20 }}, {"next", func(s *api.State) { s.Versions[16].Order = math.MaxUint64 }}, {"", func(s *api.State) { s.Versions[16].Order = 19 }},
		{"version's time", func(s *api.State) { s.Clock = 117 }}, {"", func(s *api.State) { s.Clock = 118 }},
		{"", func(s *api.State) { s.Versions = nil }}, {"", func(s *api.State) { s.Versions, s.Next = nil, 0 }}, {"", func(s *api.State) { s.Versions = without(s.Versions, 3) }},
		set("orders rise", 1, func(v *api.Version) { v.Order = 0 }), set("orders rise", 1, func(v *api.Version) { v.Order = 2 }), set("orders rise", 16, func(v *api.Version) { v.Order = 17 }), set("", 3, func(v *api.Version) { v.Order = 3 }),
		set("twice", 4, func(v *api.Version) { v.Id = 7 }), set("twice", 10, func(v *api.Version) { v.Id = 5 }), set("twice", 14, func(v *api.Version) { v.Key = "k" }), set("twice", 9, func(v *api.Version) { v.Id = 7 }), set("twice", 15, func(v *api.Version) { v.Key = "k" }),
		set("twice", 16, func(v *api.Version) { v.Bucket = "lock" }), set("", 16, func(v *api.Version) { v.Bucket, v.Key = "lock", "n" }), set("", 16, func(v *api.Version) { v.Bucket, v.Id = "lock", 1 }), set("", 0, func(v *api.Version) { v.Id = 1 }), set("", 0, func(v *api.Version) { v.Id = math.MaxUint64 }),
		set("id where off", 2, func(v *api.Version) { v.Id = 1 }), set("id where off", 14, func(v *api.Version) { v.Id = math.MaxUint64 }), set("marker where off", 14, func(v *api.Version) { v.Marker, v.Data = true, nil }),
		set("marker's data", 9, func(v *api.Version) { v.Data = []byte{0} }), set("marker's data", 13, func(v *api.Version) { v.Data = []byte("data") }), set("", 9, func(v *api.Version) { v.Data = []byte{} }),
		set("marker's retention", 11, func(v *api.Version) { v.R = api.Retain{Mode: 1, Until: 2000} }), set("marker's retention", 11, func(v *api.Version) { v.R = api.Retain{Mode: 2} }), set("marker's hold", 11, func(v *api.Version) { v.Hold = true }),
		set("until of none", 1, func(v *api.Version) { v.R.Until = 1 }), set("until of none", 1, func(v *api.Version) { v.R.Until = math.MaxUint64 }),
		set("hold without lock", 0, func(v *api.Version) { v.Hold = true }), set("hold without lock", 2, func(v *api.Version) { v.Hold = true }), set("retention without lock", 0, func(v *api.Version) { v.R = api.Retain{Mode: 1, Until: 2000} }), set("retention without lock", 3, func(v *api.Version) { v.R = api.Retain{Mode: 2, Until: 1} }), set("retention without lock", 2, func(v *api.Version) { v.R.Mode = 1 }),
		set("", 1, func(v *api.Version) { v.R.Mode = 1 }), set("", 1, func(v *api.Version) { v.R = api.Retain{Mode: 2, Until: math.MaxUint64} }), set("", 1, func(v *api.Version) { v.Hold = true }), set("", 6, func(v *api.Version) { v.R = api.Retain{Mode: 1, Until: 1} }),
		set("version's time", 0, func(v *api.Version) { v.Time = 1001 }), set("version's time", 16, func(v *api.Version) { v.Time = math.MaxUint64 }), set("", 0, func(v *api.Version) { v.Time = 1000 }), set("", 16, func(v *api.Version) { v.Time = 0 }),
	}
	for at := range 17 {
		for _, key := range []string{"", strings.Repeat("k", 49), "a b", "\x7f"} {
			l = append(l, set("version's key", at, func(v *api.Version) { v.Key = key }))
		}
		for _, key := range []string{"!", "~", strings.Repeat("k", 48)} {
			l = append(l, set("", at, func(v *api.Version) { v.Key = key }))
		}
		for _, name := range []string{"", "nosuch", "cod", "codes", "LOCK"} {
			l = append(l, set("version's bucket", at, func(v *api.Version) { v.Bucket = name }))
		}
		if marker := at == 9 || at == 11 || at == 13; !marker {
			l = append(l, set("bytes", at, func(v *api.Version) { v.Data = ofSize(6145) }), set("", at, func(v *api.Version) { v.Data = ofSize(6144) }), set("", at, func(v *api.Version) { v.Data = nil }))
		}
	}
	for _, n := range []int{-1, 3, 4, math.MinInt, math.MaxInt, 1<<32 + 1} {
		l = append(l, set("mode", 1, func(v *api.Version) { v.R = api.Retain{Mode: n, Until: 2000} }), set("mode", 4, func(v *api.Version) { v.R.Mode = n }))
	}
	return l
}

func uploadChanges() []change {
	set := func(breaks string, at int, of func(u *api.Upload)) change {
		return change{breaks, func(s *api.State) { of(&s.Uploads[at]) }}
	}
	l := []change{
		{"uploads", func(s *api.State) { *s = fullOf(5, 9) }}, {"", func(s *api.State) { *s = fullOf(5, 8) }}, {"", func(s *api.State) { s.Uploads = nil }},
		{"ids rise", func(s *api.State) { s.Uploads[0], s.Uploads[1] = s.Uploads[1], s.Uploads[0] }},
		{"ids rise", func(s *api.State) { s.Uploads[3], s.Uploads[4] = s.Uploads[4], s.Uploads[3] }},
		{"clock", func(s *api.State) { s.Clock = maxTime + 1 }}, {"clock", func(s *api.State) { s.Clock = math.MaxUint64 }}, {"", func(s *api.State) { s.Clock = maxTime }},
		set("id from 1", 0, func(u *api.Upload) { u.Id = 0 }), set("", 0, func(u *api.Upload) { u.Id = 1 }), set("ids rise", 1, func(u *api.Upload) { u.Id = 2 }), set("ids rise", 4, func(u *api.Upload) { u.Id = 8 }), set("", 4, func(u *api.Upload) { u.Id = math.MaxUint64 }),
		set("parts", 0, func(u *api.Upload) { u.Parts[0], u.Parts[1] = u.Parts[1], u.Parts[0] }), set("parts", 0, func(u *api.Upload) { u.Parts[0].N = 3 }), set("parts", 0, func(u *api.Upload) { u.Parts[0].N = 0 }), set("parts", 0, func(u *api.Upload) { u.Parts[1].N = 5 }), set("", 0, func(u *api.Upload) { u.Parts[1].N = 4 }),
		set("parts", 4, func(u *api.Upload) { u.Parts[0].Data = ofSize(1537) }), set("", 4, func(u *api.Upload) { u.Parts[0].Data = ofSize(1536) }), set("parts", 3, func(u *api.Upload) { u.Parts = []api.Part{{}} }),
	}
	for at := range 5 {
		for _, key := range []string{"", strings.Repeat("k", 49), "a b", "\x7f"} {
			l = append(l, set("upload's key", at, func(u *api.Upload) { u.Key = key }))
		}
		for _, name := range []string{"", "nosuch", "of", "off0", "OFF"} {
			l = append(l, set("upload's bucket", at, func(u *api.Upload) { u.Bucket = name }))
		}
		l = append(l, set("upload's time", at, func(u *api.Upload) { u.Time = 1001 }), set("upload's time", at, func(u *api.Upload) { u.Time = math.MaxUint64 }), set("", at, func(u *api.Upload) { u.Time = 1000 }), set("", at, func(u *api.Upload) { u.Time = 0 }))
		l = append(l, set("", at, func(u *api.Upload) { u.Key = "!~" }), set("", at, func(u *api.Upload) { u.Bucket = "-def" }), set("", at, func(u *api.Upload) { u.Parts = nil }))
	}
	return l
}

func changes() []change { return slices.Concat(bucketChanges(), versionChanges(), uploadChanges()) }

// Each condition broken alone, and not broken by as little.
func TestRightOfEachConditionAlone(t *testing.T) {
	if !model.Right(rich()) || !model.Right(api.State{}) || !model.Right(api.State{Clock: maxTime, Next: math.MaxUint64}) {
		t.Fatal("what is right is not")
	}
	broken := map[string]int{}
	for i, c := range changes() {
		s := rich()
		c.of(&s)
		want := "[]"
		if c.breaks != "" {
			want = "[" + c.breaks + "]"
		}
		if got := fmt.Sprint(wrongsSays(s)); got != want {
			t.Fatalf("change %d breaks %s, not %s alone:\n%s", i, got, want, show(s))
		}
		before := whole(s)
		if got := model.Right(s); got != (c.breaks == "") {
			t.Errorf("Right of what breaks %s: %t\n%s", want, got, show(s))
		}
		if whole(s) != before {
			t.Fatalf("Right changed %s", show(s))
		}
		broken[c.breaks]++
	}
	// All conditions of the words, and none.
	if len(broken) != 37 {
		t.Errorf("%d are broken: %v", len(broken), broken)
	}
}

// both: c and d are made to s, if they can be: one may take away what the other
// one is of.
func both(s *api.State, c, d change) (made bool) {
	defer func() { made = recover() == nil }()
	c.of(s)
	d.of(s)
	return true
}

// Two changes at once.
func TestRightOfEachTwoChanges(t *testing.T) {
	l := changes()
	for i, c := range l {
		for j, d := range l {
			if (i+j)%3 != 0 {
				continue
			}
			s := rich()
			if !both(&s, c, d) {
				continue
			}
			if got := model.Right(s); got != rightSays(s) {
				t.Fatalf("Right: %t; broken: %v\n%s", got, wrongsSays(s), show(s))
			}
		}
	}
}

// Spare room is no part of a state, and no names, keys or ids of other things
// stand against one another.
func TestRightOfTheRest(t *testing.T) {
	s := roomy(rich())
	before := whole(s)
	if !model.Right(s) || whole(s) != before {
		t.Error("spare room matters")
	}
	empty := rich()
	empty.Versions, empty.Uploads = []api.Version{}, []api.Upload{}
	if !model.Right(empty) || !model.Right(api.State{Buckets: []api.Bucket{}}) {
		t.Error("empty lists are not right")
	}
	// One id in several buckets, and of several keys; an order that is an id.
	twin := rich()
	for i := range twin.Versions {
		if twin.Versions[i].Bucket != "off" {
			twin.Versions[i].Key, twin.Versions[i].Id = fmt.Sprint(twin.Versions[i].Key, i), 2
		}
	}
	if !model.Right(twin) {
		t.Error("one id of several keys is not right")
	}
}

// A bucket and a key that together read the same are not the same.
func TestRightOfPairsThatReadTheSame(t *testing.T) {
	s := api.State{
		Buckets:  []api.Bucket{{Name: "a", Versioning: enabled}, {Name: "ab", Versioning: enabled}},
		Versions: []api.Version{{Bucket: "a", Key: "bc", Id: 1, Order: 0}, {Bucket: "ab", Key: "c", Id: 1, Order: 1}, {Bucket: "a", Key: "b", Id: 11, Order: 2}, {Bucket: "a", Key: "b1", Id: 1, Order: 3}},
		Next:     4,
	}
	if !model.Right(s) {
		t.Error("they stand against each other")
	}
	s.Versions[3] = api.Version{Bucket: "a", Key: "bc", Id: 1, Order: 3}
	if model.Right(s) {
		t.Error("one is there twice")
	}
}
