package uri_test

import (
	"fmt"
	"math/rand"
	"net/url"
	"slices"
	"strings"
	"testing"

	"stele/api"
	"stele/uri"
)

const unreserved = "ABCDEFGHIJKLMNOPQRSTUVWXYZabcdefghijklmnopqrstuvwxyz0123456789-._~"

// encoded: as the document's words say, byte by byte.
func encoded(s string, slash bool) string {
	stays := unreserved
	if slash {
		stays += "/"
	}
	var out strings.Builder
	for _, b := range []byte(s) {
		if strings.IndexByte(stays, b) >= 0 {
			out.WriteByte(b)
		} else {
			fmt.Fprintf(&out, "%%%02X", b)
		}
	}
	return out.String()
}

// decoded: as the library does it.
func decoded(s string) (string, api.Errno) {
	out, err := url.PathUnescape(s)
	if err != nil {
		return "", api.ErrPath
	}
	return out, api.OK
}

// text: so many signs at most, some of those that matter here, some of all.
func text(random *rand.Rand, most int) string {
	const signs = "%%%%&&==//+aAfFgG019-._~ \x00\x7f\xc3\xa9\xff"
	out := make([]byte, random.Intn(most+1))
	for i := range out {
		out[i] = signs[random.Intn(len(signs))]
		if random.Intn(4) == 0 {
			out[i] = byte(random.Intn(256))
		}
	}
	return string(out)
}

// names: so many pairs x0, x1 and so on, without a value.
func names(count int) []uri.Pair {
	l := []uri.Pair{}
	for i := range count {
		l = append(l, uri.Pair{Name: fmt.Sprint("x", i)})
	}
	return l
}

// joined: the pairs' names as the text of a query.
func joined(l []uri.Pair) string {
	out := []string{}
	for _, p := range l {
		out = append(out, p.Name)
	}
	return strings.Join(out, "&")
}

// P401

func TestEncodeByHand(t *testing.T) {
	for _, c := range []struct {
		s     string
		slash bool
		want  string
	}{
		{"a b/é", true, "a%20b/%C3%A9"}, {"a b/é", false, "a%20b%2F%C3%A9"}, {"", true, ""}, {"", false, ""},
		{"/", true, "/"}, {"/", false, "%2F"}, {"//", true, "//"}, {"//", false, "%2F%2F"},
		{"%", true, "%25"}, {"%41", false, "%2541"}, {"a+b", false, "a%2Bb"}, {"a=b&c", true, "a%3Db%26c"},
		{"\x00\x0f\x10\x7f\x80\xff", true, "%00%0F%10%7F%80%FF"}, {"-._~", false, "-._~"}, {"\xc3", false, "%C3"}, {"€", false, "%E2%82%AC"},
		{unreserved, true, unreserved}, {unreserved, false, unreserved},
	} {
		if got := uri.Encode(c.s, c.slash); got != c.want {
			t.Errorf("Encode(%q, %v): %q, not %q", c.s, c.slash, got, c.want)
		}
	}
}

func TestEncodeOfEachByte(t *testing.T) {
	for b := range 256 {
		for _, around := range []string{"", "a", "/", "%", "\xff"} {
			s := around + string([]byte{byte(b)}) + around
			for _, slash := range []bool{true, false} {
				if got, want := uri.Encode(s, slash), encoded(s, slash); got != want {
					t.Errorf("Encode(%q, %v): %q, not %q", s, slash, got, want)
				}
			}
		}
	}
}

func TestDecodeByHand(t *testing.T) {
	for _, c := range []struct{ s, want string }{
		{"", ""}, {"abc", "abc"}, {"a%20b/%C3%A9", "a b/é"}, {"%c3%a9", "é"}, {"%C3%a9", "é"}, {"%2f", "/"}, {"%2F", "/"},
		{"%aB%Ab", "\xab\xab"}, {"%00", "\x00"}, {"%ff", "\xff"}, {"%41", "A"}, {"%2541", "%41"}, {"%25%34%31", "%41"}, {"%25", "%"},
		{"a+b", "a+b"}, {"a=b&c?#", "a=b&c?#"}, {"é", "é"}, {"\xff\x00", "\xff\x00"}, {"%411", "A1"}, {"4%41", "4A"}, {"%c3é", "\xc3é"},
	} {
		if got, e := uri.Decode(c.s); got != c.want || e != api.OK {
			t.Errorf("Decode(%q): %q, %d, not %q", c.s, got, e, c.want)
		}
	}
}

func TestDecodeOfAnyTwoSigns(t *testing.T) {
	for high := range 256 {
		for low := range 256 {
			for _, around := range []string{"", "41"} {
				s := around + "%" + string([]byte{byte(high), byte(low)}) + around
				want, e := decoded(s)
				if got, ge := uri.Decode(s); got != want || ge != e {
					t.Fatalf("Decode(%q): %q, %d, not %q, %d", s, got, ge, want, e)
				}
			}
		}
	}
}

func TestDecodeOfWrongTexts(t *testing.T) {
	for _, s := range []string{
		"%", "a%", "%4", "a%4", "%%", "%%%", "%%41", "%4%41", "%41%", "%41%4", "%41%4g",
		"%g0", "%0g", "%G0", "%0G", "%zz", "% 1", "%1 ", "%+1", "%-1", "%1_", "%0x", "%x0", "%/0", "%:0", "%0/", "%0:", "%@0", "%0@", "%`0", "%0`",
		"%\x001", "%1\x00", "%é", "%1é", "%４１", "abc%", "%20%", "%20%2", "%%20", strings.Repeat("%41", 1000) + "%",
	} {
		if got, e := uri.Decode(s); got != "" || e != api.ErrPath {
			t.Errorf("Decode(%q): %q, %d, not ErrPath", s, got, e)
		}
	}
}

func TestEncodeAndDecodeOfTexts(t *testing.T) {
	random := rand.New(rand.NewSource(401))
	for range 100000 {
		s := text(random, 12)
		slash := random.Intn(2) == 0
		if got, want := uri.Encode(s, slash), encoded(s, slash); got != want {
			t.Fatalf("Encode(%q, %v): %q, not %q", s, slash, got, want)
		}
		want, e := decoded(s)
		if got, ge := uri.Decode(s); got != want || ge != e {
			t.Fatalf("Decode(%q): %q, %d, not %q, %d", s, got, ge, want, e)
		}
	}
}

func FuzzDecode(f *testing.F) {
	f.Add("a%20b/%C3%A9")
	f.Add("%4")
	f.Fuzz(func(t *testing.T, s string) {
		want, e := decoded(s)
		if got, ge := uri.Decode(s); got != want || ge != e {
			t.Errorf("Decode(%q): %q, %d, not %q, %d", s, got, ge, want, e)
		}
	})
}

// P402

// query: the pairs of s as the document's words say, by the library's means.
func query(s string) ([]uri.Pair, api.Errno) {
	if s == "" {
		return nil, api.OK
	}
	seen, l := map[string]bool{}, []uri.Pair{}
	for _, part := range strings.Split(s, "&") {
		halves := append(strings.SplitN(part, "=", 2), "")
		name, e := decoded(halves[0])
		value, ve := decoded(halves[1])
		if e != api.OK || ve != api.OK || name == "" || seen[name] {
			return nil, api.ErrPath
		}
		seen[name] = true
		l = append(l, uri.Pair{Name: name, Value: value})
	}
	if len(l) > api.MaxHeaders {
		return nil, api.ErrPath
	}
	return l, api.OK
}

func checkQuery(t *testing.T, s string) {
	t.Helper()
	want, e := query(s)
	got, ge := uri.Query(s)
	if ge != e || !slices.Equal(got, want) {
		t.Errorf("Query(%q): %q, %d, not %q, %d", s, got, ge, want, e)
	}
}

func TestQueryByHand(t *testing.T) {
	for _, c := range []struct {
		s    string
		want []uri.Pair
	}{
		{"", nil},
		{"x=1&y", []uri.Pair{{"x", "1"}, {"y", ""}}},
		{"x", []uri.Pair{{"x", ""}}}, {"x=", []uri.Pair{{"x", ""}}}, {"x==", []uri.Pair{{"x", "="}}}, {"x=1=2", []uri.Pair{{"x", "1=2"}}},
		{"x=a=&y==b", []uri.Pair{{"x", "a="}, {"y", "=b"}}},
		{"b=2&a=%20&c", []uri.Pair{{"b", "2"}, {"a", " "}, {"c", ""}}},
		{"a=1&b=1", []uri.Pair{{"a", "1"}, {"b", "1"}}}, {"a=1&A=1", []uri.Pair{{"a", "1"}, {"A", "1"}}}, {"a&aa&aaa", []uri.Pair{{"a", ""}, {"aa", ""}, {"aaa", ""}}},
		{"a%3Db=c", []uri.Pair{{"a=b", "c"}}}, {"a%26b=c%26d", []uri.Pair{{"a&b", "c&d"}}}, {"%3d=%3D", []uri.Pair{{"=", "="}}}, {"a%3D1", []uri.Pair{{"a=1", ""}}},
		{"%26", []uri.Pair{{"&", ""}}}, {"%00=%00", []uri.Pair{{"\x00", "\x00"}}}, {"%2541=1&A=2", []uri.Pair{{"%41", "1"}, {"A", "2"}}},
		{"a+b=c+d", []uri.Pair{{"a+b", "c+d"}}}, {"a;b=1;2", []uri.Pair{{"a;b", "1;2"}}}, {"?a=/", []uri.Pair{{"?a", "/"}}}, {" = ", []uri.Pair{{" ", " "}}},
		{"%c3%A9=é", []uri.Pair{{"é", "é"}}}, {"\xff=\xfe", []uri.Pair{{"\xff", "\xfe"}}},
	} {
		if got, e := uri.Query(c.s); e != api.OK || !slices.Equal(got, c.want) {
			t.Errorf("Query(%q): %q, %d, not %q", c.s, got, e, c.want)
		}
		checkQuery(t, c.s)
	}
}

func TestQueryOfWrongTexts(t *testing.T) {
	for _, s := range []string{
		// an empty name
		"=", "=1", "&", "&&", "a&", "&a", "a&&b", "a=1&", "&a=1", "a=1&&b=2", "a=1&=2", "=1&a=2", "==", "=a=b",
		// a name twice
		"a=1&a=2", "a=1&a=1", "a&a", "a&a=", "a=&a=", "a=1&b=2&a=3", "b&a&a", "a&b&c&d&b",
		"a=1&%61=1", "%61&a", "%61&%61", "%c3%a9=1&%C3%A9=2", "é=1&%C3%a9=2", "%2f=1&/=2", "%3d=1&%3D=2",
		// what can't be decoded
		"%", "a=%", "%=a", "a%", "a=%4", "%4=a", "a%4&b", "a=1&b=%", "a=1&%=2", "a=%zz", "%zz=a", "a%=1%", "a=1&b=2&c=%0g", "a=1%&b", "a=%3&d=1", "a=%=41", "%4=1",
	} {
		if got, e := uri.Query(s); len(got) != 0 || e != api.ErrPath {
			t.Errorf("Query(%q): %q, %d, not ErrPath", s, got, e)
		}
		checkQuery(t, s)
	}
}

func TestQueryOfManyPairs(t *testing.T) {
	for count := 1; count <= api.MaxHeaders; count++ {
		want := names(count)
		if got, e := uri.Query(joined(want)); e != api.OK || !slices.Equal(got, want) {
			t.Errorf("Query of %d pairs: %q, %d", count, got, e)
		}
	}
	for _, count := range []int{api.MaxHeaders + 1, api.MaxHeaders + 2, 2 * api.MaxHeaders, 256, 257, 100000} {
		if got, e := uri.Query(joined(names(count))); len(got) != 0 || e != api.ErrPath {
			t.Errorf("Query of %d pairs: %d of them, %d, not ErrPath", count, len(got), e)
		}
	}
	full := joined(names(api.MaxHeaders))
	for _, s := range []string{full + "&", full + "&x0", full + "&x23=1", full + "%", full + "&%", strings.Replace(full, "x23", "x0", 1), strings.Replace(full, "x23", "", 1), strings.Replace(full, "x23", "x23=%", 1)} {
		if got, e := uri.Query(s); len(got) != 0 || e != api.ErrPath {
			t.Errorf("Query(%q): %q, %d, not ErrPath", s, got, e)
		}
	}
}

func TestQueryOfTexts(t *testing.T) {
	random := rand.New(rand.NewSource(402))
	right := 0
	for range 200000 {
		s := text(random, 8)
		if random.Intn(2) == 0 {
			parts := []string{}
			for range random.Intn(6) {
				parts = append(parts, uri.Encode(text(random, 2), false)+"="+text(random, 2))
			}
			s = strings.Join(parts, "&")
		}
		checkQuery(t, s)
		if _, e := uri.Query(s); e == api.OK {
			right++
		}
	}
	if right < 10000 {
		t.Errorf("only %d of the texts were queries", right)
	}
}

func TestQueryIsNewMemory(t *testing.T) {
	const s = "a=1&b=2&c=3"
	first, _ := uri.Query(s)
	spare := first[:cap(first)]
	for i := range spare {
		spare[i] = uri.Pair{Name: "z", Value: "z"}
	}
	checkQuery(t, s)
}

func FuzzQuery(f *testing.F) {
	f.Add("b=2&a=%20&c")
	f.Add("a=1&%61=2")
	f.Fuzz(checkQuery)
}

// P403

func TestCanonByHand(t *testing.T) {
	for _, c := range []struct {
		l    []uri.Pair
		want string
	}{
		{nil, ""}, {[]uri.Pair{}, ""}, {[]uri.Pair{{"a", "1"}}, "a=1"}, {[]uri.Pair{{"a", ""}}, "a="}, {[]uri.Pair{{"", ""}}, "="}, {[]uri.Pair{{"", "v"}}, "=v"},
		{[]uri.Pair{{"b", "2"}, {"a", " "}, {"c", ""}}, "a=%20&b=2&c="},
		{[]uri.Pair{{"a/b", "c/d"}}, "a%2Fb=c%2Fd"}, {[]uri.Pair{{"a=b", "c&d"}}, "a%3Db=c%26d"}, {[]uri.Pair{{"+", "%41"}}, "%2B=%2541"}, {[]uri.Pair{{"é", "\xff"}}, "%C3%A9=%FF"},
		// pairs of one name
		{[]uri.Pair{{"a", "2"}, {"a", "1"}}, "a=1&a=2"}, {[]uri.Pair{{"a", "1"}, {"a", "1"}}, "a=1&a=1"}, {[]uri.Pair{{"a", "1"}, {"a", ""}, {"a", "11"}}, "a=&a=1&a=11"},
		{[]uri.Pair{{"b", "1"}, {"a", "9"}, {"b", "0"}, {"a", "2"}}, "a=2&a=9&b=0&b=1"}, {[]uri.Pair{{"", "b"}, {"a", ""}, {"", "a"}}, "=a&=b&a="},
		// the order is the encoded bytes', not that of the bytes
		{[]uri.Pair{{"-", ""}, {"!", ""}, {"~", ""}, {"é", ""}, {"[", ""}, {"A", ""}}, "%21=&%5B=&%C3%A9=&-=&A=&~="},
		{[]uri.Pair{{"a", "-"}, {"a", "é"}, {"a", "0"}, {"a", "~"}, {"a", "|"}, {"a", "!"}}, "a=%21&a=%7C&a=%C3%A9&a=-&a=0&a=~"},
		{[]uri.Pair{{"/", ""}, {"0", ""}, {".", ""}}, "%2F=&.=&0="}, {[]uri.Pair{{"B", ""}, {"a", ""}, {"A", ""}, {"b", ""}}, "A=&B=&a=&b="}, {[]uri.Pair{{"x10", ""}, {"x2", ""}}, "x10=&x2="},
		// names go ahead of values, also where the joined texts are in another order
		{[]uri.Pair{{"a-", "1"}, {"a", "1"}}, "a=1&a-=1"}, {[]uri.Pair{{"a0", "0"}, {"a", "1"}}, "a=1&a0=0"}, {[]uri.Pair{{"a ", "0"}, {"a", "9"}}, "a=9&a%20=0"}, {[]uri.Pair{{"ab", "1"}, {"a", "2"}}, "a=2&ab=1"},
	} {
		if got := uri.Canon(c.l); got != c.want {
			t.Errorf("Canon(%q): %q, not %q", c.l, got, c.want)
		}
	}
}

// less: is a ahead of b, as the document says?
func less(a, b uri.Pair) bool {
	an, bn := encoded(a.Name, false), encoded(b.Name, false)
	if an != bn {
		return an < bn
	}
	return encoded(a.Value, false) < encoded(b.Value, false)
}

// canon: by putting each pair ahead of the first that it is less than.
func canon(l []uri.Pair) string {
	sorted := []uri.Pair{}
	for _, p := range l {
		at := 0
		for at < len(sorted) && !less(p, sorted[at]) {
			at++
		}
		sorted = slices.Insert(sorted, at, p)
	}
	out := []string{}
	for _, p := range sorted {
		out = append(out, encoded(p.Name, false)+"="+encoded(p.Value, false))
	}
	return strings.Join(out, "&")
}

// somePairs: up to so many, with names that are like others often.
func somePairs(random *rand.Rand, most int) []uri.Pair {
	l := []uri.Pair{}
	for range random.Intn(most + 1) {
		l = append(l, uri.Pair{Name: text(random, 2), Value: text(random, 2)})
	}
	return l
}

func TestCanonOfPairs(t *testing.T) {
	random := rand.New(rand.NewSource(403))
	for range 50000 {
		l := somePairs(random, 12)
		if got, want := uri.Canon(l), canon(l); got != want {
			t.Fatalf("Canon(%q): %q, not %q", l, got, want)
		}
	}
	many := names(5000)
	slices.Reverse(many)
	if got, want := uri.Canon(many), canon(many); got != want {
		t.Errorf("Canon of many pairs: another text")
	}
}

func TestFindByHand(t *testing.T) {
	l := []uri.Pair{{"b", "1"}, {"a", ""}, {"b", "2"}, {"c", "3"}, {"é", "4"}, {"a", "5"}}
	for _, c := range []struct {
		name, want string
		ok         bool
	}{
		{"b", "1", true}, {"a", "", true}, {"c", "3", true}, {"é", "4", true}, {"B", "", false}, {"", "", false}, {"bb", "", false}, {"%62", "", false}, {"%C3%A9", "", false}, {"1", "", false},
	} {
		if got, ok := uri.Find(l, c.name); got != c.want || ok != c.ok {
			t.Errorf("Find(%q): %q, %v, not %q, %v", c.name, got, ok, c.want, c.ok)
		}
		if got, ok := uri.Find(nil, c.name); got != "" || ok {
			t.Errorf("Find(%q) in no pairs: %q, %v", c.name, got, ok)
		}
	}
	if got, ok := uri.Find([]uri.Pair{{"a", "1"}, {"", "2"}, {"", "3"}}, ""); got != "2" || !ok {
		t.Errorf("Find of the empty name: %q, %v", got, ok)
	}
}

func TestFindOfPairs(t *testing.T) {
	random := rand.New(rand.NewSource(403))
	for range 50000 {
		l, name := somePairs(random, 12), text(random, 1)
		want, there := "", false
		for i := len(l) - 1; i >= 0; i-- {
			if l[i].Name == name {
				want, there = l[i].Value, true
			}
		}
		if got, ok := uri.Find(l, name); got != want || ok != there {
			t.Fatalf("Find(%q, %q): %q, %v, not %q, %v", l, name, got, ok, want, there)
		}
	}
}

func TestCanonAndFindLeaveTheirPairs(t *testing.T) {
	whole := []uri.Pair{{"c", "1 2"}, {"b/", "2"}, {"a", "3"}, {"spare", "z"}, {"room", "y"}}
	kept := slices.Clone(whole)
	uri.Canon(whole[:3])
	uri.Find(whole[:3], "a")
	if !slices.Equal(whole, kept) {
		t.Errorf("the pairs were changed: %q", whole)
	}
	if _, ok := uri.Find(whole[:3], "spare"); ok {
		t.Errorf("Find looked into the spare room")
	}
}

// P404

func TestPathByHand(t *testing.T) {
	for _, c := range []struct{ s, bucket, key string }{
		{"/b/k/l", "b", "k/l"}, {"/", "", ""}, {"/b", "b", ""}, {"/b/", "b", ""}, {"/b/k", "b", "k"}, {"/b/k/", "b", "k/"}, {"/b//", "b", "/"}, {"/b//k", "b", "/k"}, {"/b/k//l", "b", "k//l"},
		{"/b/k%2Fl/m", "b", "k/l/m"}, {"/b%2Fc", "b/c", ""}, {"/b%2fc/k", "b/c", "k"}, {"/%2F", "/", ""}, {"/%2F/%2F", "/", "/"}, {"/b/%2Fk", "b", "/k"}, {"/%2f%2Fk", "//k", ""},
		{"/a%20b/%C3%A9", "a b", "é"}, {"/%41/%42", "A", "B"}, {"/%2541/%2542", "%41", "%42"}, {"/%00/%00", "\x00", "\x00"}, {"/a+b/c+d", "a+b", "c+d"},
		{"/b?x=1/k", "b?x=1", "k"}, {"/b/k?x=1", "b", "k?x=1"}, {"/./..", ".", ".."}, {"/../b/..", "..", "b/.."}, {"/\xff/é", "\xff", "é"}, {"/ / ", " ", " "},
		{"//", "", ""},
	} {
		if b, k, e := uri.Path(c.s); b != c.bucket || k != c.key || e != api.OK {
			t.Errorf("Path(%q): %q, %q, %d, not %q, %q", c.s, b, k, e, c.bucket, c.key)
		}
	}
}

func TestPathOfWrongTexts(t *testing.T) {
	for _, s := range []string{
		// it does not begin with /
		"", "b", "b/", "b/k", " /b", "%2Fb/k", "%2fb", "\\b", "?/b", "b/k/l", "\x00/b", ".", "*", "http://b/k",
		// a key where the bucket is empty
		"//k", "///", "////", "//k/l", "//%2F", "///k", "// ", "//%00",
		// what can't be decoded
		"/%", "/b%", "/%4", "/b%4/k", "/%zz", "/b/%", "/b/k%", "/b/k%4", "/b/%g0", "/b/%0g", "/%/k", "/%4/1", "/b/k/%4/1", "/%%/k", "/%zz/%zz", "//%", "%", "%/b",
	} {
		if b, k, e := uri.Path(s); b != "" || k != "" || e != api.ErrPath {
			t.Errorf("Path(%q): %q, %q, %d, not ErrPath", s, b, k, e)
		}
	}
}

// path: as the document's words say, by the library's means.
func path(s string) (string, string, api.Errno) {
	parts := append(strings.SplitN(s, "/", 3), "", "")
	bucket, e := decoded(parts[1])
	key, ke := decoded(parts[2])
	if !strings.HasPrefix(s, "/") || e != api.OK || ke != api.OK || bucket == "" && key != "" {
		return "", "", api.ErrPath
	}
	return bucket, key, api.OK
}

func checkPath(t *testing.T, s string) {
	t.Helper()
	bucket, key, e := path(s)
	if b, k, ge := uri.Path(s); b != bucket || k != key || ge != e {
		t.Errorf("Path(%q): %q, %q, %d, not %q, %q, %d", s, b, k, ge, bucket, key, e)
	}
}

func TestPathOfTexts(t *testing.T) {
	random := rand.New(rand.NewSource(404))
	right := 0
	for range 200000 {
		s := text(random, 8)
		if random.Intn(3) > 0 {
			s = "/" + uri.Encode(text(random, 3), random.Intn(2) == 0) + "/" + text(random, 3)
		}
		checkPath(t, s)
		if _, _, e := uri.Path(s); e == api.OK {
			right++
		}
	}
	if right < 10000 {
		t.Errorf("only %d of the texts were paths", right)
	}
}

func FuzzPath(f *testing.F) {
	f.Add("/b/k%2Fl/m")
	f.Add("//k")
	f.Fuzz(checkPath)
}

// P405

func TestDecodeOfEncode(t *testing.T) {
	random := rand.New(rand.NewSource(405))
	texts := []string{"", "%", "%41", "a b/é", strings.Repeat("\x00\xff", 5000)}
	for b := range 256 {
		texts = append(texts, string([]byte{byte(b)}))
	}
	for range 50000 {
		texts = append(texts, text(random, 20))
	}
	for _, s := range texts {
		for _, slash := range []bool{true, false} {
			if back, e := uri.Decode(uri.Encode(s, slash)); back != s || e != api.OK {
				t.Fatalf("Decode of Encode(%q, %v): %q, %d", s, slash, back, e)
			}
		}
	}
}

func TestQueryOfCanon(t *testing.T) {
	random := rand.New(rand.NewSource(405))
	for range 50000 {
		l := []uri.Pair{}
		for _, p := range somePairs(random, api.MaxHeaders) {
			if _, there := uri.Find(l, p.Name); p.Name != "" && !there {
				l = append(l, p)
			}
		}
		s := uri.Canon(l)
		slices.SortFunc(l, func(a, b uri.Pair) int {
			return strings.Compare(encoded(a.Name, false), encoded(b.Name, false))
		})
		back, e := uri.Query(s)
		if e != api.OK || !slices.Equal(back, l) {
			t.Fatalf("Query of Canon, %q: %q, %d, not %q", s, back, e, l)
		}
		if again := uri.Canon(back); again != s {
			t.Fatalf("Canon of Query(%q): %q", s, again)
		}
	}
}

func TestQueryOfCanonOfNoQuery(t *testing.T) {
	for _, l := range [][]uri.Pair{
		{{"", ""}}, {{"", "1"}}, {{"a", "1"}, {"", ""}}, {{"a", "1"}, {"a", "1"}}, {{"a", "1"}, {"b", ""}, {"a", "2"}}, names(api.MaxHeaders + 1),
	} {
		if back, e := uri.Query(uri.Canon(l)); len(back) != 0 || e != api.ErrPath {
			t.Errorf("Query of Canon(%q): %q, %d, not ErrPath", l, back, e)
		}
	}
	full := names(api.MaxHeaders)
	if back, e := uri.Query(uri.Canon(full)); len(back) != api.MaxHeaders || e != api.OK {
		t.Errorf("Query of Canon of as many pairs as may be: %q, %d", back, e)
	}
}

func FuzzQueryOfCanon(f *testing.F) {
	f.Add("a", "1", "b", "2")
	f.Add("a-", "%", "a", "é")
	f.Fuzz(func(t *testing.T, n1, v1, n2, v2 string) {
		if n1 == "" || n2 == "" || n1 == n2 {
			return
		}
		l := []uri.Pair{{Name: n1, Value: v1}, {Name: n2, Value: v2}}
		if less(l[1], l[0]) {
			slices.Reverse(l)
		}
		if back, e := uri.Query(uri.Canon(l)); e != api.OK || !slices.Equal(back, l) {
			t.Errorf("Query of Canon(%q): %q, %d", l, back, e)
		}
	})
}
