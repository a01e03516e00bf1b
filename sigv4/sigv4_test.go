package sigv4_test

import (
	"crypto/hmac"
	"crypto/sha256"
	"fmt"
	"math"
	"math/rand"
	"net/url"
	"regexp"
	"slices"
	"sort"
	"strings"
	"testing"
	"time"

	"stele/api"
	"stele/request"
	"stele/sigv4"
)

// What the document's words say, by the library's means.

var (
	nameForm = regexp.MustCompile(`\A[a-z0-9_-]{1,64}\z`)
	timeForm = regexp.MustCompile(`\A[0-9]{8}T[0-9]{6}Z\z`)
	authForm = regexp.MustCompile(`\AAWS4-HMAC-SHA256 Credential=([A-Za-z0-9]{1,16})/([0-9]{8})/local/s3/aws4_request, ` +
		`SignedHeaders=([a-z0-9_;-]*), Signature=([0-9a-f]{64})\z`)
)

const stamp = "20060102T150405Z"

// right: are the signed names right?
func right(names []string) bool {
	seen := map[string]bool{}
	for _, n := range names {
		if !nameForm.MatchString(n) || seen[n] {
			return false
		}
		seen[n] = true
	}
	return len(names) >= 1 && len(names) <= 24 && sort.StringsAreSorted(names)
}

// encoded: each byte but the unreserved ones, and those of keep, as % and two digits.
func encoded(s, keep string) string {
	out := ""
	for _, b := range []byte(s) {
		if strings.IndexByte("ABCDEFGHIJKLMNOPQRSTUVWXYZabcdefghijklmnopqrstuvwxyz0123456789-._~"+keep, b) >= 0 {
			out += string([]byte{b})
		} else {
			out += fmt.Sprintf("%%%02X", b)
		}
	}
	return out
}

// canonicalQuery: the canonical text of a query, false of one that can't be read.
func canonicalQuery(query string) (string, bool) {
	if query == "" {
		return "", true
	}
	values := map[string]string{}
	var names []string
	for _, part := range strings.Split(query, "&") {
		first, rest, _ := strings.Cut(part, "=")
		name, err := url.PathUnescape(first)
		value, err2 := url.PathUnescape(rest)
		if _, twice := values[encoded(name, "")]; err != nil || err2 != nil || name == "" || twice {
			return "", false
		}
		values[encoded(name, "")] = encoded(value, "")
		names = append(names, encoded(name, ""))
	}
	sort.Strings(names)
	for i, n := range names {
		names[i] = n + "=" + values[n]
	}
	return strings.Join(names, "&"), len(names) <= 24
}

// canonical: Canonical, as the words say.
func canonical(r request.Request, signed []string) (string, api.Errno) {
	if !right(signed) {
		return "", api.ErrHeader
	}
	lines := ""
	for _, n := range signed {
		i := slices.IndexFunc(r.Headers, func(h request.Header) bool { return h.Name == n })
		if i < 0 {
			return "", api.ErrHeader
		}
		lines += n + ":" + r.Headers[i].Value + "\n"
	}
	path, err := url.PathUnescape(r.Path)
	query, ok := canonicalQuery(r.Query)
	if err != nil || !ok {
		return "", api.ErrPath
	}
	return fmt.Sprintf("%s\n%s\n%s\n%s\n%s\n%x", r.Method, encoded(path, "/"), query, lines, strings.Join(signed, ";"), sha256.Sum256(r.Body)), api.OK
}

// code: HMAC with SHA-256.
func code(key []byte, text string) []byte {
	h := hmac.New(sha256.New, key)
	h.Write([]byte(text))
	return h.Sum(nil)
}

// key: Key, as the words say.
func key(secret, date string) []byte {
	return code(code(code(code([]byte("AWS4"+secret), date), "local"), "s3"), "aws4_request")
}

// shownTime: a time's text.
func shownTime(t uint64) string { return time.Unix(int64(t), 0).UTC().Format(stamp) }

// signature: Sign, as the words say.
func signature(secret string, r request.Request, signed []string, t uint64) (string, api.Errno) {
	if t > 253402300799 {
		return "", api.ErrTime
	}
	c, e := canonical(r, signed)
	if e != api.OK {
		return "", e
	}
	when := shownTime(t)
	text := fmt.Sprintf("AWS4-HMAC-SHA256\n%s\n%s/local/s3/aws4_request\n%x", when, when[:8], sha256.Sum256([]byte(c)))
	return fmt.Sprintf("%x", code(key(secret, when[:8]), text)), api.OK
}

// shownAuth: ShowAuth, as the words say.
func shownAuth(a sigv4.Auth) string {
	return fmt.Sprintf("AWS4-HMAC-SHA256 Credential=%s/%s/local/s3/aws4_request, SignedHeaders=%s, Signature=%s",
		a.Access, a.Date, strings.Join(a.Signed, ";"), a.Signature)
}

// readAuth: ReadAuth, as the words say.
func readAuth(s string) (sigv4.Auth, api.Errno) {
	m := authForm.FindStringSubmatch(s)
	if m == nil || !right(strings.Split(m[3], ";")) {
		return sigv4.Auth{}, api.ErrAuth
	}
	return sigv4.Auth{Access: m[1], Date: m[2], Signed: strings.Split(m[3], ";"), Signature: m[4]}, api.OK
}

// value: the first header's of that name.
func value(r request.Request, name string) string {
	for _, h := range r.Headers {
		if h.Name == name {
			return h.Value
		}
	}
	return ""
}

// attached: Attach, as the words say.
func attached(r request.Request, access, secret string, t uint64) (request.Request, api.Errno) {
	none := request.Request{}
	if t > 253402300799 {
		return none, api.ErrTime
	}
	names := []string{"x-amz-date"}
	for _, h := range r.Headers {
		if h.Name == "authorization" || h.Name == "x-amz-date" {
			return none, api.ErrHeader
		}
		names = append(names, h.Name)
	}
	if len(r.Headers)+2 > 24 {
		return none, api.ErrHeader
	}
	sort.Strings(names)
	r.Headers = append(slices.Clone(r.Headers), request.Header{Name: "x-amz-date", Value: shownTime(t)})
	s, e := signature(secret, r, names, t)
	if e != api.OK {
		return none, e
	}
	text := shownAuth(sigv4.Auth{Access: access, Date: shownTime(t)[:8], Signed: names, Signature: s})
	if _, e := readAuth(text); e != api.OK {
		return none, e
	}
	r.Headers = append(r.Headers, request.Header{Name: "authorization", Value: text})
	return r, api.OK
}

// verified: Verify, as the words say.
func verified(r request.Request, secret string, now uint64) api.Errno {
	a, e := readAuth(value(r, "authorization"))
	if e != api.OK {
		return api.ErrAuth
	}
	text := value(r, "x-amz-date")
	when, err := time.Parse(stamp, text)
	if !timeForm.MatchString(text) || err != nil || when.Unix() < 0 || text[:8] != a.Date || !slices.Contains(a.Signed, "x-amz-date") {
		return api.ErrAuth
	}
	at := uint64(when.Unix())
	if now > at && now-at > 900 || at > now && at-now > 900 {
		return api.ErrSkew
	}
	s, e := signature(secret, r, a.Signed, at)
	if e != api.OK {
		return e
	}
	if s != a.Signature {
		return api.ErrAuth
	}
	return api.OK
}

// told: a request as a text that is another one for another request.
func told(r request.Request) string {
	out := fmt.Sprintf("%q %q %q %q", r.Method, r.Path, r.Query, string(r.Body))
	for _, h := range r.Headers {
		out += fmt.Sprintf(" %q: %q", h.Name, h.Value)
	}
	return out
}

// Each call, held against the words.

func holdsCanonical(t *testing.T, r request.Request, signed []string) api.Errno {
	t.Helper()
	got, e := sigv4.Canonical(r, signed)
	want, wantE := canonical(r, signed)
	if got != want || e != wantE {
		t.Fatalf("Canonical(%s, %q): %q, %d, not %q, %d", told(r), signed, got, e, want, wantE)
	}
	return e
}

func holdsSign(t *testing.T, secret string, r request.Request, signed []string, at uint64) api.Errno {
	t.Helper()
	got, e := sigv4.Sign(secret, r, signed, at)
	want, wantE := signature(secret, r, signed, at)
	if got != want || e != wantE {
		t.Fatalf("Sign(%q, %s, %q, %d): %q, %d, not %q, %d", secret, told(r), signed, at, got, e, want, wantE)
	}
	return e
}

func holdsReadAuth(t *testing.T, s string) api.Errno {
	t.Helper()
	got, e := sigv4.ReadAuth(s)
	want, wantE := readAuth(s)
	if fmt.Sprintf("%q", got) != fmt.Sprintf("%q", want) || e != wantE {
		t.Fatalf("ReadAuth(%q): %q, %d, not %q, %d", s, got, e, want, wantE)
	}
	return e
}

func holdsAttach(t *testing.T, r request.Request, access, secret string, at uint64) api.Errno {
	t.Helper()
	got, e := sigv4.Attach(r, access, secret, at)
	want, wantE := attached(r, access, secret, at)
	if told(got) != told(want) || e != wantE {
		t.Fatalf("Attach(%s, %q, %q, %d): %s, %d, not %s, %d", told(r), access, secret, at, told(got), e, told(want), wantE)
	}
	return e
}

func holdsVerify(t *testing.T, r request.Request, secret string, now uint64) api.Errno {
	t.Helper()
	e := sigv4.Verify(r, secret, now)
	if want := verified(r, secret, now); e != want {
		t.Fatalf("Verify(%s, %q, %d): %d, not %d", told(r), secret, now, e, want)
	}
	return e
}

// is: the error is that one.
func is(t *testing.T, what string, e, want api.Errno) {
	t.Helper()
	if e != want {
		t.Errorf("%s: %d, not %d", what, e, want)
	}
}

const (
	noon      = 1440938160 // 20150830T123600Z
	noonText  = "20150830T123600Z"
	emptySum  = "e3b0c44298fc1c149afbf4c8996fb92427ae41e4649b934ca495991b7852b855"
	putSum    = "8f434346648f6b96df89dda901c5176b10a6d83961dd3c1ac88b59b2dc327aa4" // of hi
	putDigits = "1c1de0cbf274fbd5d08211bc1a8b4c5dead401a0a65090db5a986b62fe80d271"
	putAuth   = "AWS4-HMAC-SHA256 Credential=a1/20150830/local/s3/aws4_request, SignedHeaders=host;x-amz-date;z, Signature=" + putDigits
)

// header: a list of one.
func header(name, value string) []request.Header {
	return []request.Header{{Name: name, Value: value}}
}

// get: a request of one header, to be turned where a test asks for it.
func get() request.Request {
	return request.Request{Method: "GET", Path: "/b", Headers: header("host", "h")}
}

// put: a request whose path, query and headers are not as they are signed.
func put() request.Request {
	return request.Request{Method: "PUT", Path: "/b/k l%2fm", Query: "b=2&a=%20&c", Body: []byte("hi"),
		Headers: []request.Header{{Name: "z"}, {Name: "host", Value: "h i"}}}
}

// signed: what Attach makes of r at noon, with the secret s.
func signed(t *testing.T, r request.Request) request.Request {
	t.Helper()
	a, e := sigv4.Attach(r, "a1", "s", noon)
	if e != api.OK {
		t.Fatalf("Attach(%s): %d", told(r), e)
	}
	return a
}

// with: r with that value of the first header of that name.
func with(r request.Request, name, value string) request.Request {
	r.Headers = slices.Clone(r.Headers)
	for i, h := range r.Headers {
		if h.Name == name {
			r.Headers[i].Value = value
			break
		}
	}
	return r
}

// without: r without the headers of that name.
func without(r request.Request, name string) request.Request {
	r.Headers = slices.DeleteFunc(slices.Clone(r.Headers), func(h request.Header) bool { return h.Name == name })
	return r
}

// handSigned: r with x-amz-date and authorization made by the library, over
// those names, whatever they are.
func handSigned(r request.Request, secret string, at uint64, names ...string) request.Request {
	r.Headers = append(slices.Clone(r.Headers), request.Header{Name: "x-amz-date", Value: shownTime(at)})
	s, e := signature(secret, r, names, at)
	if e != api.OK {
		s = strings.Repeat("0", 64)
	}
	a := sigv4.Auth{Access: "a1", Date: shownTime(at)[:8], Signed: names, Signature: s}
	r.Headers = append(r.Headers, request.Header{Name: "authorization", Value: shownAuth(a)})
	return r
}

// many: so many headers x00, x01 and so on, and their names.
func many(count int) ([]request.Header, []string) {
	var headers []request.Header
	var names []string
	for i := range count {
		name := fmt.Sprintf("x%02d", i)
		headers, names = append(headers, request.Header{Name: name, Value: fmt.Sprint("v", i)}), append(names, name)
	}
	return headers, names
}

func TestConstants(t *testing.T) {
	if got := fmt.Sprint(sigv4.Region, " ", sigv4.Service, " ", sigv4.Skew); got != "local s3 900" {
		t.Error(got)
	}
}

// P601

func TestCanonicalExamples(t *testing.T) {
	full := put()
	full.Headers = append(full.Headers, request.Header{Name: "x-amz-date", Value: noonText})
	twice := get()
	twice.Headers = []request.Header{{Name: "b", Value: "1"}, {Name: "a", Value: ": 2  3"}, {Name: "b", Value: "4"}, {Name: "c", Value: "\n"}}
	for _, c := range []struct {
		r     request.Request
		names []string
		want  string
	}{
		{get(), []string{"host"}, "GET\n/b\n\nhost:h\n\nhost\n" + emptySum},
		{full, []string{"host", "x-amz-date", "z"},
			"PUT\n/b/k%20l/m\na=%20&b=2&c=\nhost:h i\nx-amz-date:" + noonText + "\nz:\n\nhost;x-amz-date;z\n" + putSum},
		{full, []string{"z"}, "PUT\n/b/k%20l/m\na=%20&b=2&c=\nz:\n\nz\n" + putSum},
		{twice, []string{"a", "b"}, "GET\n/b\n\na:: 2  3\nb:1\n\na;b\n" + emptySum},
		{twice, []string{"c"}, "GET\n/b\n\nc:\n\n\nc\n" + emptySum},
		{request.Request{Headers: header("-", "v")}, []string{"-"}, "\n\n\n-:v\n\n-\n" + emptySum},
		{request.Request{Method: "any\n", Path: "b", Headers: header("_0", "é\xff")}, []string{"_0"}, "any\n\nb\n\n_0:é\xff\n\n_0\n" + emptySum},
	} {
		if got, e := sigv4.Canonical(c.r, c.names); got != c.want || e != api.OK {
			t.Errorf("Canonical(%s, %q): %q, %d, not %q", told(c.r), c.names, got, e, c.want)
		}
		holdsCanonical(t, c.r, c.names)
	}
}

func TestCanonicalPaths(t *testing.T) {
	for _, c := range []struct{ path, want string }{
		{"/", "/"}, {"/b", "/b"}, {"/b/", "/b/"}, {"/b/k/l//m", "/b/k/l//m"}, {"/b/k%20l", "/b/k%20l"}, {"/b/k%2Fl", "/b/k/l"}, {"/b%2fk", "/b/k"},
		{"/b/é", "/b/%C3%A9"}, {"/b/%c3%a9", "/b/%C3%A9"}, {"/b/%7e%7E~", "/b/~~~"}, {"/%41%5a", "/AZ"}, {"/b/+", "/b/%2B"}, {"/b/a=b&c", "/b/a%3Db%26c"},
		{"/b/%00%ff\x00\xff", "/b/%00%FF%00%FF"}, {"/b/%2541", "/b/%2541"}, {"/b/%25", "/b/%25"}, {"/b/-._~", "/b/-._~"}, {"/b/k\n", "/b/k%0A"},
	} {
		r := get()
		r.Path = c.path
		want := "GET\n" + c.want + "\n\nhost:h\n\nhost\n" + emptySum
		if got, e := sigv4.Canonical(r, []string{"host"}); got != want || e != api.OK {
			t.Errorf("Canonical of the path %q: %q, %d, not %q", c.path, got, e, want)
		}
	}
	for _, path := range []string{"%", "/%", "/b/%4", "/b/%g0", "/b/%0g", "/b/k%", "/b/%%41", "/b/% 1", "/b/%-1", "/b/%41%"} {
		r := get()
		r.Path = path
		is(t, "Canonical of the path "+path, holdsCanonical(t, r, []string{"host"}), api.ErrPath)
	}
}

func TestCanonicalQueries(t *testing.T) {
	full, sorted := []string{}, []string{}
	for i := range api.MaxHeaders {
		full, sorted = append(full, fmt.Sprintf("x%02d", 23-i)), append(sorted, fmt.Sprintf("x%02d=", i))
	}
	for _, c := range []struct{ query, want string }{
		{"", ""}, {"x", "x="}, {"x=", "x="}, {"x=1", "x=1"}, {"y=2&x=1", "x=1&y=2"}, {"x=1&y=2", "x=1&y=2"}, {"x==", "x=%3D"}, {"b&a&c", "a=&b=&c="},
		{"a-=1&a=2", "a=2&a-=1"}, {"x=%2f/", "x=%2F%2F"}, {"%78=%31", "x=1"}, {"a=é", "a=%C3%A9"}, {"x=+", "x=%2B"}, {"%5a=1&a=2&A=3", "A=3&Z=1&a=2"},
		{"z=1&%00=2", "%00=2&z=1"}, {"?=?", "%3F=%3F"}, {strings.Join(full, "&"), strings.Join(sorted, "&")},
	} {
		r := get()
		r.Query = c.query
		want := "GET\n/b\n" + c.want + "\nhost:h\n\nhost\n" + emptySum
		if got, e := sigv4.Canonical(r, []string{"host"}); got != want || e != api.OK {
			t.Errorf("Canonical of the query %q: %q, %d, not %q", c.query, got, e, want)
		}
	}
	for _, query := range []string{"=", "=1", "&", "x&", "&x", "x&x", "x=1&x=2", "x&%78", "%", "x=%f", "x=%gg", strings.Join(full, "&") + "&y"} {
		r := get()
		r.Query = query
		is(t, "Canonical of the query "+query, holdsCanonical(t, r, []string{"host"}), api.ErrPath)
	}
}

func TestCanonicalBodies(t *testing.T) {
	for _, c := range []struct {
		body []byte
		sum  string
	}{
		{nil, emptySum}, {[]byte{}, emptySum}, {[]byte("hi"), putSum},
		{[]byte("abc"), "ba7816bf8f01cfea414140de5dae2223b00361a396177a9cb410ff61f20015ad"},
	} {
		r := get()
		r.Body = c.body
		if got, e := sigv4.Canonical(r, []string{"host"}); got != "GET\n/b\n\nhost:h\n\nhost\n"+c.sum || e != api.OK {
			t.Errorf("Canonical of the body %q: %q, %d", c.body, got, e)
		}
	}
}

// wrongNames: lists of names that are not right, though a request might have
// headers of all of them.
func wrongNames() [][]string {
	_, tooMany := many(api.MaxHeaders + 1)
	return [][]string{
		nil, {}, {""}, {"host", ""}, {"", "host"}, {"Host"}, {"HOST"}, {"a", "B"}, {"a b"}, {" a"}, {"a "}, {"a:"}, {"a.b"}, {"a;b"}, {"a,b"}, {"é"}, {"a\n"}, {"a\x00"},
		{"b", "a"}, {"a", "c", "b"}, {"a", "a"}, {"a", "b", "b"}, {"a", "b", "a"}, {"a_", "a-"}, {"a", "a0", "a-"}, {"ab", "a"},
		{strings.Repeat("a", 65)}, {"a", strings.Repeat("b", 65)}, {strings.Repeat("a", 1000)}, tooMany, append(tooMany, tooMany...),
	}
}

// holding: get, with a header for each of the names beside its own.
func holding(names []string) request.Request {
	r := get()
	for _, n := range names {
		r.Headers = append(r.Headers, request.Header{Name: n, Value: "v"})
	}
	return r
}

func TestCanonicalNames(t *testing.T) {
	for _, count := range []int{1, 2, api.MaxHeaders - 1, api.MaxHeaders} {
		headers, names := many(count)
		slices.Reverse(headers)
		is(t, fmt.Sprint("Canonical of so many names: ", count), holdsCanonical(t, request.Request{Headers: headers}, names), api.OK)
	}
	for _, names := range [][]string{
		{"a"}, {"0"}, {"-"}, {"_"}, {strings.Repeat("a", 64)}, {strings.Repeat("a", 63), strings.Repeat("a", 64)}, {"-", "0", "_", "a"}, {"a", "a-", "a0", "a_", "aa", "b"},
		{"authorization", "x-amz-date"},
	} {
		is(t, fmt.Sprintf("Canonical of %q", names), holdsCanonical(t, holding(names), names), api.OK)
	}
	for _, names := range wrongNames() {
		is(t, fmt.Sprintf("Canonical of %q", names), holdsCanonical(t, holding(names), names), api.ErrHeader)
	}
}

func TestCanonicalNamesOfEachByte(t *testing.T) {
	const fit = "abcdefghijklmnopqrstuvwxyz0123456789-_"
	for b := range 256 {
		sign := string([]byte{byte(b)})
		want := api.ErrHeader
		if strings.Contains(fit, sign) {
			want = api.OK
		}
		for _, name := range []string{sign, "a" + sign, sign + "a", "a" + sign + "a"} {
			is(t, fmt.Sprintf("Canonical of %q", name), holdsCanonical(t, holding([]string{name}), []string{name}), want)
		}
	}
}

func TestCanonicalOfNoHeader(t *testing.T) {
	headers, names := many(api.MaxHeaders)
	for i := range headers {
		r := request.Request{Headers: slices.Delete(slices.Clone(headers), i, i+1)}
		is(t, "Canonical without "+names[i], holdsCanonical(t, r, names), api.ErrHeader)
	}
	is(t, "Canonical of nothing", holdsCanonical(t, request.Request{}, []string{"host"}), api.ErrHeader)
	is(t, "Canonical of a great letter", holdsCanonical(t, request.Request{Headers: header("Host", "h")}, []string{"host"}), api.ErrHeader)
}

func TestCanonicalTellsTheFirst(t *testing.T) {
	r := get()
	r.Path, r.Query = "/%", "%"
	for _, names := range [][]string{nil, {"Host"}, {"a"}, {"host", "host"}} {
		is(t, "Canonical", holdsCanonical(t, r, names), api.ErrHeader)
	}
	is(t, "Canonical", holdsCanonical(t, r, []string{"host"}), api.ErrPath)
}

func TestCanonicalLeavesWhatItIsGiven(t *testing.T) {
	r := put()
	names := append(make([]string, 0, 9), "host", "z")
	before := told(r)
	sigv4.Canonical(r, names)
	if told(r) != before || fmt.Sprint(names[:9]) != fmt.Sprint([]string{"host", "z", 8: ""}) {
		t.Error("Canonical turned what it was given")
	}
}

// one: one of them, by chance.
func one[T any](random *rand.Rand, of ...T) T { return of[random.Intn(len(of))] }

// anyHeaders: headers of few names, some of them none.
func anyHeaders(random *rand.Rand) []request.Header {
	if random.Intn(6) == 0 {
		headers, _ := many(api.MaxHeaders - 4 + random.Intn(6))
		return headers
	}
	var headers []request.Header
	for i := range random.Intn(5) {
		name := one(random, "host", "x-", "a", "z_", "b") + fmt.Sprint(i)
		if random.Intn(40) == 0 {
			name = one(random, "A", "", "a b", "authorization", "x-amz-date", strings.Repeat("n", 64), strings.Repeat("n", 65), "a0")
		}
		headers = append(headers, request.Header{Name: name, Value: one(random, "", "v", "v w", "é", "1\n")})
	}
	return headers
}

// anyRequest: a request, at times of a path or a query that can't be read.
func anyRequest(random *rand.Rand) request.Request {
	r := request.Request{Method: one(random, "GET", "PUT", "POST", "DELETE", "HEAD", ""), Headers: anyHeaders(random)}
	r.Path = one(random, "/", "/b", "/b/k", "/b/%41", "/b/k%2Fl", "/b/é +", "", "/b/k//")
	r.Query = one(random, "", "x", "x=1&y=2", "y=2&x=1", "a=%20&B=/", "z&y&x")
	if random.Intn(20) == 0 {
		r.Path = one(random, "/%", "/%4", "/b/%zz")
	}
	if random.Intn(20) == 0 {
		r.Query = one(random, "=", "x&x", "%", "&")
	}
	r.Body = []byte(one(random, "", "", "hi", "\r\n", strings.Repeat("b", 1000)))
	return r
}

// anyNames: most often the names of r's headers, sorted.
func anyNames(random *rand.Rand, r request.Request) []string {
	var names []string
	for _, h := range r.Headers {
		if random.Intn(5) != 0 {
			names = append(names, h.Name)
		}
	}
	sort.Strings(names)
	if random.Intn(20) == 0 {
		names = append(names, one(random, "zz", "a", "A", ""))
	}
	return names
}

// anyTime: a time, at times none, often at the edge of a day.
func anyTime(random *rand.Rand) uint64 {
	if random.Intn(4) != 0 {
		return uint64(random.Int63n(api.MaxTime + 1))
	}
	return one[uint64](random, 0, 1, 86399, 86400, noon, api.MaxTime, api.MaxTime-1, api.MaxTime+1, math.MaxUint64)
}

// enough: each of the errors came often.
func enough(t *testing.T, counts map[api.Errno]int, errors ...api.Errno) {
	t.Helper()
	for _, e := range errors {
		if counts[e] < 30 {
			t.Errorf("only %d samples of %d", counts[e], e)
		}
	}
}

func TestCanonicalAndSignSamples(t *testing.T) {
	random := rand.New(rand.NewSource(601))
	counts, signs := map[api.Errno]int{}, map[api.Errno]int{}
	for range 6000 {
		r := anyRequest(random)
		names := anyNames(random, r)
		counts[holdsCanonical(t, r, names)]++
		signs[holdsSign(t, one(random, "", "s", "secret", strings.Repeat("k", 61)), r, names, anyTime(random))]++
	}
	enough(t, counts, api.OK, api.ErrHeader, api.ErrPath)
	enough(t, signs, api.OK, api.ErrTime, api.ErrHeader, api.ErrPath)
}

// P602

func TestKey(t *testing.T) {
	for _, c := range []struct{ secret, date, want string }{
		{"wJalrXUtnFEMI/K7MDENG+bPxRfiCYEXAMPLEKEY", "20150830", "499bc7de1604d492cf632abe5b327c0ba3825bb7baa0dd866b3196037951ffe9"},
		{"", "", "ad84f5865216bcd9fcef4be06c7826a56e817863410c75fba829c15e7b33c0a0"},
		{strings.Repeat("k", 100), "x", "f00f2e15a713bf77aac8a865864ef029bc3264e99a504271f4f16989523ac525"},
	} {
		if got := fmt.Sprintf("%x", sigv4.Key(c.secret, c.date)); got != c.want {
			t.Errorf("Key(%q, %q): %s, not %s", c.secret, c.date, got, c.want)
		}
	}
	for size := range 70 {
		secret, date := strings.Repeat("é\x00", size), fmt.Sprint(size, "0830")
		if got, want := sigv4.Key(secret, date), key(secret, date); string(got) != string(want) {
			t.Errorf("Key(%q, %q): %x, not %x", secret, date, got, want)
		}
	}
}

func TestKeyNewMemory(t *testing.T) {
	k := sigv4.Key("s", "20150830")
	other := sigv4.Key("s", "20150830")
	for i := range k[:cap(k)] {
		k[:cap(k)][i] = 0
	}
	if string(other) != string(key("s", "20150830")) || string(sigv4.Key("s", "20150830")) != string(other) {
		t.Error("two keys share memory")
	}
}

func TestSignExample(t *testing.T) {
	r := put()
	r.Headers = append(r.Headers, request.Header{Name: "x-amz-date", Value: noonText})
	if got, e := sigv4.Sign("s", r, []string{"host", "x-amz-date", "z"}, noon); got != putDigits || e != api.OK {
		t.Errorf("Sign: %q, %d, not %q", got, e, putDigits)
	}
}

func TestSignTimes(t *testing.T) {
	seen := map[string]uint64{}
	for _, at := range []uint64{0, 1, 86399, 86400, noon - 1, noon, noon + 1, api.MaxTime - 86400, api.MaxTime - 1, api.MaxTime} {
		is(t, fmt.Sprint("Sign at ", at), holdsSign(t, "s", get(), []string{"host"}, at), api.OK)
		s, _ := sigv4.Sign("s", get(), []string{"host"}, at)
		if other, twice := seen[s]; twice {
			t.Errorf("at %d and at %d the signature is one", at, other)
		}
		seen[s] = at
	}
	for _, at := range []uint64{api.MaxTime + 1, api.MaxTime + 86400, 1 << 63, math.MaxUint64} {
		is(t, fmt.Sprint("Sign at ", at), holdsSign(t, "s", get(), []string{"host"}, at), api.ErrTime)
	}
}

func TestSignTellsTheFirst(t *testing.T) {
	bad := get()
	bad.Path = "/%"
	is(t, "Sign", holdsSign(t, "s", bad, []string{"Host"}, api.MaxTime+1), api.ErrTime)
	is(t, "Sign", holdsSign(t, "s", bad, []string{"host"}, math.MaxUint64), api.ErrTime)
	is(t, "Sign", holdsSign(t, "s", bad, []string{"Host"}, api.MaxTime), api.ErrHeader)
	is(t, "Sign", holdsSign(t, "s", bad, []string{"host"}, api.MaxTime), api.ErrPath)
	for _, names := range wrongNames() {
		is(t, "Sign", holdsSign(t, "s", holding(names), names, noon), api.ErrHeader)
	}
}

// P603

var digits64 = strings.Repeat("0123456789abcdef", 4)

// auth: an Auth that is right, to be turned where a test asks for it.
func auth() sigv4.Auth {
	return sigv4.Auth{Access: "a1", Date: "20150830", Signed: []string{"host"}, Signature: digits64}
}

// reads: ReadAuth of ShowAuth of a is a.
func reads(t *testing.T, a sigv4.Auth) {
	t.Helper()
	got, e := sigv4.ReadAuth(sigv4.ShowAuth(a))
	if fmt.Sprintf("%q", got) != fmt.Sprintf("%q", a) || e != api.OK {
		t.Errorf("ReadAuth of %q: %q, %d", a, got, e)
	}
	holdsReadAuth(t, sigv4.ShowAuth(a))
}

// refused: ReadAuth refuses the text, with nothing beside it.
func refused(t *testing.T, s string) {
	t.Helper()
	got, e := sigv4.ReadAuth(s)
	if got.Access+got.Date+got.Signature != "" || len(got.Signed) != 0 || e != api.ErrAuth {
		t.Errorf("ReadAuth(%q): %q, %d", s, got, e)
	}
	holdsReadAuth(t, s)
}

func TestShowAuth(t *testing.T) {
	for _, c := range []struct {
		a    sigv4.Auth
		want string
	}{
		{auth(), "AWS4-HMAC-SHA256 Credential=a1/20150830/local/s3/aws4_request, SignedHeaders=host, Signature=" + digits64},
		{sigv4.Auth{Access: "B", Date: "19700101", Signed: []string{"a", "b-_", "c"}, Signature: "é"},
			"AWS4-HMAC-SHA256 Credential=B/19700101/local/s3/aws4_request, SignedHeaders=a;b-_;c, Signature=é"},
		{sigv4.Auth{}, "AWS4-HMAC-SHA256 Credential=//local/s3/aws4_request, SignedHeaders=, Signature="},
		{sigv4.Auth{Access: "/", Date: ", ", Signed: []string{"", ";", "\n"}, Signature: "="},
			"AWS4-HMAC-SHA256 Credential=//, /local/s3/aws4_request, SignedHeaders=;;;\n, Signature=="},
	} {
		if got := sigv4.ShowAuth(c.a); got != c.want {
			t.Errorf("ShowAuth(%q): %q, not %q", c.a, got, c.want)
		}
	}
}

func TestReadAuthAccess(t *testing.T) {
	const fit = "ABCDEFGHIJKLMNOPQRSTUVWXYZabcdefghijklmnopqrstuvwxyz0123456789"
	for _, access := range []string{"a", "Z", "0", "a1", "AbC09", strings.Repeat("x", api.MaxUser-1), strings.Repeat("9", api.MaxUser)} {
		a := auth()
		a.Access = access
		reads(t, a)
	}
	for _, access := range []string{"", strings.Repeat("x", api.MaxUser+1), strings.Repeat("x", 1000), "a/b", "/", "a/20150830/local/s3/aws4_request", "é", " a", "a ", "a-b", "a_b", "Credential=a"} {
		a := auth()
		a.Access = access
		refused(t, sigv4.ShowAuth(a))
	}
	for b := range 256 {
		for _, place := range []int{0, 1, 2} {
			a, sign := auth(), string([]byte{byte(b)})
			a.Access = "xy"[:place] + sign + "xy"[place:]
			if strings.Contains(fit, sign) {
				reads(t, a)
			} else {
				refused(t, sigv4.ShowAuth(a))
			}
		}
	}
}

func TestReadAuthDate(t *testing.T) {
	for _, date := range []string{"20150830", "00000000", "99999999", "19691231", "20230229"} {
		a := auth()
		a.Date = date
		reads(t, a)
	}
	for _, date := range []string{"", "2015083", "201508300", "2015-8-3", "2015083a", "x0150830", " 0150830", "2015083 ", "２015083", "-2015083", "20150830/20150830"} {
		a := auth()
		a.Date = date
		refused(t, sigv4.ShowAuth(a))
	}
	for b := range 256 {
		for place := range 8 {
			a := auth()
			a.Date = a.Date[:place] + string([]byte{byte(b)}) + a.Date[place+1:]
			if '0' <= b && b <= '9' {
				reads(t, a)
			} else {
				refused(t, sigv4.ShowAuth(a))
			}
		}
	}
}

func TestReadAuthNames(t *testing.T) {
	for _, count := range []int{1, 2, api.MaxHeaders - 1, api.MaxHeaders} {
		a := auth()
		_, a.Signed = many(count)
		reads(t, a)
	}
	for _, names := range [][]string{{"a"}, {"-", "0", "_", "a"}, {strings.Repeat("a", 64)}, {strings.Repeat("a", 63), strings.Repeat("a", 64), "b"}, {"authorization", "x-amz-date"}} {
		a := auth()
		a.Signed = names
		reads(t, a)
	}
	for _, names := range wrongNames() {
		// Two names with the sign that parts names between them are two.
		if len(names) == 1 && names[0] == "a;b" {
			continue
		}
		a := auth()
		a.Signed = names
		refused(t, sigv4.ShowAuth(a))
	}
	for _, names := range []string{";", "a;", ";a", "a;;b", "a,b", "a; b", " a", "a ", "a;b;", strings.Repeat(";", 1000), "a, Signature=", "a, SignedHeaders=b"} {
		a := auth()
		a.Signed = []string{names}
		refused(t, sigv4.ShowAuth(a))
	}
	for b := range 256 {
		a, sign := auth(), string([]byte{byte(b)})
		a.Signed = []string{"a" + sign + "b"}
		want := strings.Split(a.Signed[0], ";")
		if !strings.Contains("abcdefghijklmnopqrstuvwxyz0123456789-_;", sign) {
			refused(t, sigv4.ShowAuth(a))
		} else if got, e := sigv4.ReadAuth(sigv4.ShowAuth(a)); e != api.OK || fmt.Sprintf("%q", got.Signed) != fmt.Sprintf("%q", want) {
			t.Errorf("ReadAuth of %q: %q, %d", a, got, e)
		}
	}
}

func TestReadAuthSignature(t *testing.T) {
	for _, s := range []string{strings.Repeat("0", 64), strings.Repeat("9", 64), strings.Repeat("a", 64), strings.Repeat("f", 64), digits64} {
		a := auth()
		a.Signature = s
		reads(t, a)
	}
	for _, s := range []string{"", digits64[:63], digits64 + "0", digits64 + " ", " " + digits64, digits64 + "\n", digits64 + digits64, digits64[:62], digits64 + ", Signature=" + digits64} {
		a := auth()
		a.Signature = s
		refused(t, sigv4.ShowAuth(a))
	}
	for b := range 256 {
		for _, place := range []int{0, 1, 31, 62, 63} {
			a := auth()
			a.Signature = digits64[:place] + string([]byte{byte(b)}) + digits64[place+1:]
			if '0' <= b && b <= '9' || 'a' <= b && b <= 'f' {
				reads(t, a)
			} else {
				refused(t, sigv4.ShowAuth(a))
			}
		}
	}
}

func TestReadAuthOfOtherTexts(t *testing.T) {
	good := sigv4.ShowAuth(auth())
	is(t, "ReadAuth", holdsReadAuth(t, good), api.OK)
	for _, s := range []string{
		"", " ", "AWS4-HMAC-SHA256", "AWS4-HMAC-SHA256 Credential=a1", " " + good, good + " ", "x" + good, good + good, strings.ToLower(good), strings.ToUpper(good),
		strings.Replace(good, "SHA256", "SHA1", 1), strings.Replace(good, "AWS4-HMAC-SHA256 ", "", 1), strings.Replace(good, " Cred", "  Cred", 1),
		strings.Replace(good, "local", "us-east-1", 1), strings.Replace(good, "s3", "iam", 1), strings.Replace(good, "aws4_request", "aws4", 1),
		strings.Replace(good, "/local", "", 1), strings.Replace(good, "/s3/", "/", 1), strings.Replace(good, "local/s3", "s3/local", 1),
		strings.Replace(good, "/", "//", 1), strings.Replace(good, "aws4_request", "aws4_request/", 1), strings.ReplaceAll(good, ", ", ","),
		strings.ReplaceAll(good, ", ", " "), strings.ReplaceAll(good, ", ", ",  "), strings.Replace(good, ", Signed", " , Signed", 1),
		strings.Replace(good, "SignedHeaders=host", "SignedHeaders=", 1), strings.Replace(good, "Credential=a1", "Credential=", 1),
		"AWS4-HMAC-SHA256 Credential=" + good, "AWS4-HMAC-SHA256 " + good[17:62] + good[75:], strings.Repeat("/", 1000), strings.Repeat(good, 50),
		"AWS4-HMAC-SHA256 SignedHeaders=host, Credential=a1/20150830/local/s3/aws4_request, Signature=" + digits64,
		"AWS4-HMAC-SHA256 Credential=a1/20150830/local/s3/aws4_request, Signature=" + digits64 + ", SignedHeaders=host",
		"AWS4-HMAC-SHA256 Credential=a1/20150830/local/s3/aws4_request, Signature=" + digits64,
		"AWS4-HMAC-SHA256 Credential=a1/20150830/local/s3/aws4_request, SignedHeaders=host",
		"AWS4-HMAC-SHA256 Credential=a1/20150830, SignedHeaders=host, Signature=" + digits64,
		"AWS4-HMAC-SHA256 Credential=a1/20150830/x, SignedHeaders=y/local/s3/aws4_request, SignedHeaders=host, Signature=" + digits64,
	} {
		refused(t, s)
	}
}

func TestReadAuthOfEachCutAndTurn(t *testing.T) {
	a := auth()
	a.Signed = []string{"a", "b-", "x-amz-date"}
	text := sigv4.ShowAuth(a)
	for i := range len(text) + 1 {
		holdsReadAuth(t, text[:i])
		holdsReadAuth(t, text[i:])
		for _, sign := range []string{" ", ";", ",", "/", "=", "0", "a", "A", "-", "\x00", "\n", "é", ", Signature=", ", SignedHeaders="} {
			holdsReadAuth(t, text[:i]+sign+text[i:])
			if i < len(text) {
				holdsReadAuth(t, text[:i]+sign+text[i+1:])
				holdsReadAuth(t, text[:i]+text[i+1:])
			}
		}
	}
}

func TestReadAuthNewMemory(t *testing.T) {
	names := append(make([]string, 0, 9), "a", "b")
	a := auth()
	a.Signed = names
	text := sigv4.ShowAuth(a)
	if fmt.Sprint(names[:9]) != fmt.Sprint([]string{"a", "b", 8: ""}) {
		t.Error("ShowAuth turned what it was given")
	}
	got, _ := sigv4.ReadAuth(text)
	other, _ := sigv4.ReadAuth(text)
	for i := range got.Signed[:cap(got.Signed)] {
		got.Signed[:cap(got.Signed)][i] = "z"
	}
	if fmt.Sprint(other.Signed) != "[a b]" || fmt.Sprint(names) != "[a b]" {
		t.Error("two answers share memory")
	}
}

// P604

func TestAttachExample(t *testing.T) {
	got, e := sigv4.Attach(put(), "a1", "s", noon)
	want := put()
	want.Headers = append(want.Headers, request.Header{Name: "x-amz-date", Value: noonText}, request.Header{Name: "authorization", Value: putAuth})
	if told(got) != told(want) || e != api.OK {
		t.Errorf("Attach: %s, %d, not %s", told(got), e, told(want))
	}
	for _, r := range []request.Request{{}, get(), put(), {Headers: header("zz", "")}, {Headers: header("a", "b"), Body: []byte{}}, {Headers: header("x-amz-datf", "")}} {
		is(t, "Attach of "+told(r), holdsAttach(t, r, "a1", "s", noon), api.OK)
	}
}

func TestAttachTimes(t *testing.T) {
	for _, at := range []uint64{0, 1, 86399, 86400, api.MaxTime - 1, api.MaxTime} {
		is(t, fmt.Sprint("Attach at ", at), holdsAttach(t, put(), "a1", "s", at), api.OK)
	}
	for _, at := range []uint64{api.MaxTime + 1, 1 << 63, math.MaxUint64} {
		is(t, fmt.Sprint("Attach at ", at), holdsAttach(t, put(), "a1", "s", at), api.ErrTime)
	}
}

func TestAttachHowManyHeaders(t *testing.T) {
	for count := range 2 * api.MaxHeaders {
		r := get()
		r.Headers, _ = many(count)
		slices.Reverse(r.Headers)
		want := api.OK
		if count > api.MaxHeaders-2 {
			want = api.ErrHeader
		}
		is(t, fmt.Sprint("Attach to so many headers: ", count), holdsAttach(t, r, "a1", "s", noon), want)
	}
}

func TestAttachHeaders(t *testing.T) {
	for _, name := range []string{"authorization", "x-amz-date"} {
		for _, place := range []int{0, 1, 2} {
			r := put()
			r.Headers = slices.Insert(r.Headers, place, request.Header{Name: name, Value: noonText})
			is(t, "Attach to "+name, holdsAttach(t, r, "a1", "s", noon), api.ErrHeader)
		}
	}
	for _, name := range []string{"", "Host", "a b", "é", "Authorization", "X-Amz-Date", "a;b", "a:", strings.Repeat("n", 65)} {
		is(t, "Attach to "+name, holdsAttach(t, holding([]string{name}), "a1", "s", noon), api.ErrHeader)
	}
	for _, name := range []string{"n", strings.Repeat("n", 64), "-", "_", "0", "authorization0", "x-amz-dat"} {
		is(t, "Attach to "+name, holdsAttach(t, holding([]string{name}), "a1", "s", noon), api.OK)
	}
	is(t, "Attach to a name twice", holdsAttach(t, holding([]string{"host"}), "a1", "s", noon), api.ErrHeader)
}

func TestAttachAccess(t *testing.T) {
	for _, access := range []string{"a", "Z9", strings.Repeat("x", api.MaxUser)} {
		is(t, "Attach of "+access, holdsAttach(t, put(), access, "s", noon), api.OK)
	}
	for _, access := range []string{"", strings.Repeat("x", api.MaxUser+1), "a/b", "a b", "é", "a-", "a,", "a/20150830/local/s3/aws4_request, SignedHeaders=host, Signature="} {
		is(t, "Attach of "+access, holdsAttach(t, put(), access, "s", noon), api.ErrAuth)
	}
}

func TestAttachTellsTheFirst(t *testing.T) {
	path, query, name, full, there := get(), get(), get(), get(), get()
	path.Path = "/%"
	query.Query = "x&x"
	name.Path, name.Headers = "/%", header("Host", "h")
	full.Path = "/%"
	full.Headers, _ = many(api.MaxHeaders - 1)
	there.Path, there.Headers = "/%", header("authorization", "")
	for _, c := range []struct {
		r      request.Request
		access string
		at     uint64
		want   api.Errno
	}{
		{there, "", api.MaxTime + 1, api.ErrTime}, {full, "", api.MaxTime + 1, api.ErrTime}, {name, "", api.MaxTime + 1, api.ErrTime},
		{path, "", api.MaxTime + 1, api.ErrTime}, {get(), "", api.MaxTime + 1, api.ErrTime},
		{there, "", noon, api.ErrHeader}, {full, "", noon, api.ErrHeader}, {name, "", noon, api.ErrHeader},
		{path, "", noon, api.ErrPath}, {query, "", noon, api.ErrPath}, {path, "a1", noon, api.ErrPath}, {get(), "", noon, api.ErrAuth},
	} {
		is(t, fmt.Sprintf("Attach(%s, %q, %d)", told(c.r), c.access, c.at), holdsAttach(t, c.r, c.access, "s", c.at), c.want)
	}
}

func TestAttachNewMemory(t *testing.T) {
	r := put()
	r.Headers = append(make([]request.Header, 0, 9), r.Headers...)
	r.Body = append(make([]byte, 0, 90), r.Body...)
	before := told(r)
	got, _ := sigv4.Attach(r, "a1", "s", noon)
	other, _ := sigv4.Attach(r, "a1", "s", noon)
	after := told(other)
	if told(r) != before || r.Headers[:9][2].Name != "" || slices.Max(r.Body[2:90]) != 0 {
		t.Error("Attach turned what it was given")
	}
	for i := range got.Headers[:cap(got.Headers)] {
		got.Headers[:cap(got.Headers)][i] = request.Header{Name: "z", Value: "z"}
	}
	for i := range got.Body[:cap(got.Body)] {
		got.Body[:cap(got.Body)][i] = 'z'
	}
	if told(r) != before || r.Headers[:9][2].Name != "" || slices.Max(r.Body[2:90]) != 0 || told(other) != after {
		t.Error("Attach handed out what it was given, or what it handed out before")
	}
	r.Body[0], r.Headers[0].Value = 'q', "q"
	if told(other) != after {
		t.Error("Attach kept what it was given")
	}
}

func TestAttachSamples(t *testing.T) {
	random := rand.New(rand.NewSource(604))
	counts := map[api.Errno]int{}
	for range 6000 {
		access := one(random, "a1", "Z", "user", strings.Repeat("x", 16))
		if random.Intn(10) == 0 {
			access = one(random, "", "a/b", strings.Repeat("x", 17))
		}
		counts[holdsAttach(t, anyRequest(random), access, one(random, "", "s", "secret"), anyTime(random))]++
	}
	enough(t, counts, api.OK, api.ErrTime, api.ErrHeader, api.ErrPath, api.ErrAuth)
}

// P605

func TestVerifyWhatIsThere(t *testing.T) {
	a := signed(t, put())
	is(t, "Verify", holdsVerify(t, a, "s", noon), api.OK)
	is(t, "Verify without authorization", holdsVerify(t, without(a, "authorization"), "s", noon), api.ErrAuth)
	is(t, "Verify without x-amz-date", holdsVerify(t, without(a, "x-amz-date"), "s", noon), api.ErrAuth)
	is(t, "Verify without a header", holdsVerify(t, without(a, "host"), "s", noon), api.ErrHeader)
	is(t, "Verify of nothing", holdsVerify(t, request.Request{}, "", 0), api.ErrAuth)
	great := with(a, "", "")
	great.Headers[3].Name = "Authorization"
	is(t, "Verify of Authorization", holdsVerify(t, great, "s", noon), api.ErrAuth)
	great = with(a, "", "")
	great.Headers[2].Name = "X-Amz-Date"
	is(t, "Verify of X-Amz-Date", holdsVerify(t, great, "s", noon), api.ErrAuth)
	for _, text := range []string{"", "x", putAuth + " ", putAuth[1:], putAuth[:len(putAuth)-1], putAuth + "0", strings.ToUpper(putAuth), strings.Replace(putAuth, "a1", "", 1)} {
		is(t, "Verify of "+text, holdsVerify(t, with(a, "authorization", text), "s", noon), api.ErrAuth)
	}
}

func TestVerifyTakesTheFirstOfAName(t *testing.T) {
	a := signed(t, put())
	behind := with(a, "", "")
	behind.Headers = append(behind.Headers, request.Header{Name: "authorization", Value: "x"}, request.Header{Name: "x-amz-date", Value: "x"}, request.Header{Name: "host", Value: "x"})
	is(t, "Verify", holdsVerify(t, behind, "s", noon), api.OK)
	for _, name := range []string{"authorization", "x-amz-date", "host"} {
		ahead := a
		ahead.Headers = slices.Insert(slices.Clone(a.Headers), 0, request.Header{Name: name, Value: "x"})
		is(t, "Verify with another "+name, holdsVerify(t, ahead, "s", noon), api.ErrAuth)
	}
}

func TestVerifyTimes(t *testing.T) {
	a := signed(t, put())
	for _, text := range []string{
		"", "x", "20150830T123600", "20150830T123600Z ", "20150830t123600z", "20150830", "20150830T246060Z", "20150830T240000Z", "20150830T126000Z",
		"20150830T123660Z", "2015-08-30T12:36:00Z", "20150832T123600Z", "20151330T123600Z", "20150230T123600Z", "19691231T235959Z", "00000000T000000Z", "1440938160",
	} {
		r := with(a, "x-amz-date", text)
		is(t, "Verify at "+text, holdsVerify(t, r, "s", noon), api.ErrAuth)
		if len(text) >= 8 { // and with a Date that goes with it
			r = with(r, "authorization", strings.Replace(putAuth, "20150830", text[:8], 1))
			is(t, "Verify at "+text, holdsVerify(t, r, "s", noon), api.ErrAuth)
		}
	}
	for _, text := range []string{"20150829T123600Z", "20150831T123600Z", "20150831T000000Z", "20150829T235959Z", "19700101T000000Z", "99991231T235959Z"} {
		is(t, "Verify at "+text, holdsVerify(t, with(a, "x-amz-date", text), "s", noon), api.ErrAuth)
	}
	is(t, "Verify of another second", holdsVerify(t, with(a, "x-amz-date", "20150830T123601Z"), "s", noon), api.ErrAuth)
	is(t, "Verify of another Date", holdsVerify(t, with(a, "authorization", strings.Replace(putAuth, "20150830", "20150829", 1)), "s", noon), api.ErrAuth)
}

func TestVerifySkew(t *testing.T) {
	for _, at := range []uint64{0, 1, 899, 900, 901, 86399, 86400, noon, api.MaxTime - 900, api.MaxTime} {
		a, e := sigv4.Attach(put(), "a1", "s", at)
		is(t, "Attach", e, api.OK)
		for _, by := range []uint64{0, 1, 899, 900, 901, 902, 86400, api.MaxTime, 1 << 63} {
			want := api.OK
			if by > 900 {
				want = api.ErrSkew
			}
			is(t, fmt.Sprintf("Verify at %d and %d", at, by), holdsVerify(t, a, "s", at+by), want)
			if by <= at {
				is(t, fmt.Sprintf("Verify at %d less %d", at, by), holdsVerify(t, a, "s", at-by), want)
			}
		}
		is(t, "Verify at the greatest number", holdsVerify(t, a, "s", math.MaxUint64), api.ErrSkew)
	}
}

func TestVerifySignedNames(t *testing.T) {
	is(t, "Verify of few names", holdsVerify(t, handSigned(put(), "s", noon, "x-amz-date"), "s", noon), api.OK)
	is(t, "Verify of all names", holdsVerify(t, handSigned(put(), "s", noon, "host", "x-amz-date", "z"), "s", noon), api.OK)
	is(t, "Verify without x-amz-date signed", holdsVerify(t, handSigned(put(), "s", noon, "host", "z"), "s", noon), api.ErrAuth)
	is(t, "Verify with a name like it signed", holdsVerify(t, handSigned(holding([]string{"x-amz-dat", "x-amz-dates"}), "s", noon, "x-amz-dat", "x-amz-dates"), "s", noon), api.ErrAuth)
	is(t, "Verify of a name that is no header", holdsVerify(t, handSigned(put(), "s", noon, "a", "x-amz-date"), "s", noon), api.ErrHeader)
	is(t, "Verify of names out of order", holdsVerify(t, handSigned(put(), "s", noon, "x-amz-date", "host"), "s", noon), api.ErrAuth)
	is(t, "Verify of a name twice", holdsVerify(t, handSigned(put(), "s", noon, "host", "host", "x-amz-date"), "s", noon), api.ErrAuth)
	is(t, "Verify of no name", holdsVerify(t, handSigned(put(), "s", noon), "s", noon), api.ErrAuth)
	r := get()
	headers, names := many(api.MaxHeaders - 2)
	r.Headers = headers
	names = append([]string{"x-amz-date"}, names...)
	sort.Strings(names)
	is(t, "Verify of many names", holdsVerify(t, handSigned(r, "s", noon, names...), "s", noon), api.OK)
}

func TestVerifySignature(t *testing.T) {
	a := signed(t, put())
	start := len(putAuth) - 64
	for i := range 64 {
		for _, digit := range "0123456789abcdef" {
			text := putAuth[:start+i] + string(digit) + putAuth[start+i+1:]
			want := api.ErrAuth
			if text == putAuth {
				want = api.OK
			}
			is(t, "Verify of "+text, sigv4.Verify(with(a, "authorization", text), "s", noon), want)
		}
	}
	for _, secret := range []string{"", "t", "S", "s ", "ss", "\x00s", strings.Repeat("s", 64)} {
		is(t, "Verify by "+secret, holdsVerify(t, a, secret, noon), api.ErrAuth)
	}
	// The access key tells who it is, and is no part of what is signed.
	is(t, "Verify of another access key", holdsVerify(t, with(a, "authorization", strings.Replace(putAuth, "a1", "b2", 1)), "s", noon), api.OK)
}

func TestVerifyTellsTheFirst(t *testing.T) {
	const late = noon + 901
	bad := handSigned(put(), "s", noon, "a", "host", "x-amz-date") // a is no header
	bad.Path = "/%"
	path := signed(t, put())
	path.Path = "/%"
	query := signed(t, put())
	query.Query = "x&x"
	for _, c := range []struct {
		what   string
		r      request.Request
		secret string
		now    uint64
		want   api.Errno
	}{
		{"no authorization", without(bad, "authorization"), "t", late, api.ErrAuth},
		{"a wrong authorization", with(bad, "authorization", "x"), "t", late, api.ErrAuth},
		{"no x-amz-date", without(bad, "x-amz-date"), "t", late, api.ErrAuth},
		{"a wrong x-amz-date", with(bad, "x-amz-date", "x"), "t", late, api.ErrAuth},
		{"an x-amz-date of another date", with(bad, "x-amz-date", "20150829T123600Z"), "t", late, api.ErrAuth},
		{"x-amz-date not signed", handSigned(put(), "s", noon, "a", "host"), "t", late, api.ErrAuth},
		{"late, and all else", bad, "t", late, api.ErrSkew},
		{"late, and a path", path, "t", late, api.ErrSkew},
		{"late, and another secret", signed(t, put()), "t", late, api.ErrSkew},
		{"a name, a path and a secret", bad, "t", noon, api.ErrHeader},
		{"a path and a secret", path, "t", noon, api.ErrPath},
		{"a path", path, "s", noon, api.ErrPath},
		{"a query", query, "s", noon, api.ErrPath},
		{"a secret", signed(t, put()), "t", noon, api.ErrAuth},
	} {
		is(t, "Verify with "+c.what, holdsVerify(t, c.r, c.secret, c.now), c.want)
	}
}

func TestVerifyLeavesWhatItIsGiven(t *testing.T) {
	a := signed(t, put())
	before := told(a)
	for range 2 {
		is(t, "Verify", sigv4.Verify(a, "s", noon), api.OK)
		is(t, "Verify", sigv4.Verify(a, "t", noon), api.ErrAuth)
	}
	if told(a) != before {
		t.Error("Verify turned what it was given")
	}
}

// P606

func TestWhatWasAttachedIsVerified(t *testing.T) {
	random := rand.New(rand.NewSource(606))
	count := 0
	for range 4000 {
		r, secret, at := anyRequest(random), one(random, "", "s", "secret", strings.Repeat("k", 64)), anyTime(random)
		a, e := sigv4.Attach(r, one(random, "a", "user1"), secret, at)
		if e != api.OK {
			continue
		}
		count++
		by := uint64(random.Intn(sigv4.Skew + 1))
		is(t, "Verify of "+told(a), holdsVerify(t, a, secret, at+by), api.OK)
		is(t, "Verify of "+told(a), holdsVerify(t, a, secret, at-min(by, at)), api.OK)
		is(t, "Verify of "+told(a), holdsVerify(t, a, secret, at+sigv4.Skew+1+by), api.ErrSkew)
		is(t, "Verify of "+told(a), holdsVerify(t, a, secret+"x", at), api.ErrAuth)
	}
	if count < 2000 {
		t.Errorf("only %d requests", count)
	}
}

// other: a text that is not s.
func other(s string) string { return s + "x" }

func TestTheSignatureHangsOnEachPart(t *testing.T) {
	random := rand.New(rand.NewSource(6060))
	count := 0
	for range 1000 {
		a, e := sigv4.Attach(anyRequest(random), "a1", "s", noon)
		if e != api.OK {
			continue
		}
		count++
		turned := []request.Request{a, a, a, a}
		turned[0].Method = other(a.Method)
		turned[1].Path = other(a.Path)
		turned[2].Query = strings.TrimPrefix(a.Query+"&q=1", "&")
		turned[3].Body = []byte(other(string(a.Body)))
		for _, h := range a.Headers[:len(a.Headers)-2] {
			turned = append(turned, with(a, h.Name, other(h.Value)))
		}
		turned = append(turned, with(a, "x-amz-date", "20150830T123601Z"))
		for _, r := range turned {
			is(t, "Verify of "+told(r), holdsVerify(t, r, "s", noon), api.ErrAuth)
		}
		for _, h := range a.Headers[:len(a.Headers)-2] {
			is(t, "Verify without "+h.Name, holdsVerify(t, without(a, h.Name), "s", noon), api.ErrHeader)
		}
		more := a
		more.Headers = slices.Insert(slices.Clone(a.Headers), random.Intn(len(a.Headers)), request.Header{Name: "not-signed", Value: "v"})
		is(t, "Verify with one more header", holdsVerify(t, more, "s", noon), api.OK)
		is(t, "Verify with that turned", holdsVerify(t, with(more, "not-signed", "w"), "s", noon), api.OK)
	}
	if count < 500 {
		t.Errorf("only %d requests", count)
	}
}

func TestWhatStandsForTheSameIsSignedTheSame(t *testing.T) {
	a := signed(t, put())
	for _, path := range []string{"/b/k%20l/m", "/b/k%20l%2Fm", "/%62/k l/m"} {
		r := a
		r.Path = path
		is(t, "Verify of the path "+path, holdsVerify(t, r, "s", noon), api.OK)
	}
	for _, path := range []string{"/b/k+l/m", "/b/k%20l/m/", "/b//k%20l/m", "b/k%20l/m", "/b/k%2520l/m", "/B/k%20l/m", ""} {
		r := a
		r.Path = path
		is(t, "Verify of the path "+path, holdsVerify(t, r, "s", noon), api.ErrAuth)
	}
	for _, query := range []string{"a=%20&b=2&c=", "c&b=2&a=%20", "c=&%61= &b=%32"} {
		r := a
		r.Query = query
		is(t, "Verify of the query "+query, holdsVerify(t, r, "s", noon), api.OK)
	}
	for _, query := range []string{"", "b=2&a=%20", "b=2&a=+&c", "b=2&a=%20&c=1", "b=2&a=%20&c&d", "B=2&a=%20&c"} {
		r := a
		r.Query = query
		is(t, "Verify of the query "+query, holdsVerify(t, r, "s", noon), api.ErrAuth)
	}
	turned := with(a, "", "")
	slices.Reverse(turned.Headers)
	is(t, "Verify of headers in another order", holdsVerify(t, turned, "s", noon), api.OK)
}

func TestAttachedRequestsGoAsBytes(t *testing.T) {
	r := get()
	r.Method, r.Body = "PUT", []byte("hi")
	r.Headers = append(r.Headers, request.Header{Name: "content-length", Value: "2"})
	b, e := request.Show(signed(t, r))
	is(t, "Show", e, api.OK)
	back, e := request.Parse(b)
	is(t, "Parse", e, api.OK)
	is(t, "Verify", sigv4.Verify(back, "s", noon), api.OK)
	for i := range b {
		turned := slices.Clone(b)
		turned[i] ^= 1
		// Not all are refused: the access key, for example, is not signed.
		if r, e := request.Parse(turned); e == api.OK {
			holdsVerify(t, r, "s", noon)
		}
	}
}

func TestVerifySamples(t *testing.T) {
	random := rand.New(rand.NewSource(605))
	counts := map[api.Errno]int{}
	for range 6000 {
		r := anyRequest(random)
		names := append(anyNames(random, r), "x-amz-date")
		if random.Intn(20) == 0 {
			names = names[:len(names)-1]
		}
		sort.Strings(names)
		at := uint64(random.Int63n(api.MaxTime + 1))
		r = handSigned(r, "s", at, names...)
		now := at + uint64(random.Intn(1000))
		if random.Intn(2) == 0 {
			now = at - uint64(random.Intn(1000))
		}
		counts[holdsVerify(t, r, one(random, "s", "s", "s", "t"), now)]++
	}
	enough(t, counts, api.OK, api.ErrAuth, api.ErrSkew, api.ErrHeader, api.ErrPath)
}

func FuzzReadAuth(f *testing.F) {
	f.Add(putAuth)
	f.Add(sigv4.ShowAuth(auth()))
	f.Fuzz(func(t *testing.T, s string) {
		if holdsReadAuth(t, s) != api.OK {
			return
		}
		if a, _ := sigv4.ReadAuth(s); sigv4.ShowAuth(a) != s {
			t.Errorf("ShowAuth of ReadAuth(%q): %q", s, sigv4.ShowAuth(a))
		}
	})
}

func FuzzRequests(f *testing.F) {
	f.Add("GET", "/b", "x=1", "host", "h", "a1", "s", "host;x", []byte("hi"), uint64(noon))
	f.Add("PUT", "/%", "&", "A", "\n", "", "", "", []byte{}, uint64(math.MaxUint64))
	f.Fuzz(func(t *testing.T, method, path, query, name, value, access, secret, names string, body []byte, at uint64) {
		r := request.Request{Method: method, Path: path, Query: query, Headers: header(name, value), Body: body}
		holdsCanonical(t, r, strings.Split(names, ";"))
		holdsSign(t, secret, r, []string{name}, at)
		holdsAttach(t, r, access, secret, at)
		a, _ := sigv4.Attach(r, access, secret, at)
		holdsVerify(t, a, secret, at)
		holdsVerify(t, a, secret, at+901)
		holdsVerify(t, r, secret, at)
	})
}
