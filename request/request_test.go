package request_test

import (
	"bytes"
	"fmt"
	"math"
	"math/big"
	"math/rand"
	"regexp"
	"slices"
	"strings"
	"testing"

	"stele/api"
	"stele/request"
	"stele/uri"
)

var (
	firstForm  = regexp.MustCompile(`^(GET|PUT|POST|DELETE|HEAD) ([\x21-\x7e]*) HTTP/1\.1$`)
	lineForm   = regexp.MustCompile(`^([a-zA-Z0-9_-]{1,64}): *((?:[\x21-\x7e](?:[\x20-\x7e]*[\x21-\x7e])?)?) *$`)
	nameForm   = regexp.MustCompile(`^[a-z0-9_-]{1,64}$`)
	valueForm  = regexp.MustCompile(`^(?:[\x21-\x7e](?:[\x20-\x7e]*[\x21-\x7e])?)?$`)
	pathForm   = regexp.MustCompile(`^[\x21-\x3e\x40-\x7e]*$`)
	queryForm  = regexp.MustCompile(`^[\x21-\x7e]*$`)
	numberForm = regexp.MustCompile(`^(?:0|[1-9][0-9]*)$`)
)

// parsed: as the document's words say, by the library's forms.
func parsed(text string) (request.Request, api.Errno) {
	none := request.Request{}
	if len(text) > api.MaxRequest {
		return none, api.ErrBig
	}
	line, left, ok := strings.Cut(text, "\r\n")
	first := firstForm.FindStringSubmatch(line)
	if !ok || first == nil || len(first[2]) > 1024 {
		return none, api.ErrMethod
	}
	r := request.Request{Method: first[1]}
	for {
		line, left, ok = strings.Cut(left, "\r\n")
		if !ok {
			return none, api.ErrHeader
		}
		if line == "" {
			break
		}
		h := lineForm.FindStringSubmatch(line)
		if h == nil || len(h[2]) > 1024 || len(r.Headers) == 24 {
			return none, api.ErrHeader
		}
		for _, other := range r.Headers {
			if strings.EqualFold(other.Name, h[1]) {
				return none, api.ErrHeader
			}
		}
		r.Headers = append(r.Headers, request.Header{Name: strings.ToLower(h[1]), Value: h[2]})
	}
	r.Path, r.Query, _ = strings.Cut(first[2], "?")
	r.Body = []byte(left)
	if _, _, e := uri.Path(r.Path); e != api.OK {
		return none, api.ErrPath
	}
	if _, e := uri.Query(r.Query); e != api.OK {
		return none, api.ErrPath
	}
	length := "0"
	for _, h := range r.Headers {
		if h.Name == "content-length" {
			length = h.Value
		}
	}
	if length != fmt.Sprint(len(left)) {
		return none, api.ErrLength
	}
	return r, api.OK
}

// shown: as the document's words say, by the library's forms.
func shown(r request.Request) (string, api.Errno) {
	if !slices.Contains([]string{"GET", "PUT", "POST", "DELETE", "HEAD"}, r.Method) {
		return "", api.ErrMethod
	}
	if !pathForm.MatchString(r.Path) || !queryForm.MatchString(r.Query) || len(r.Path) > 1024 || len(r.Query) > 1023 {
		return "", api.ErrPath
	}
	text := r.Method + " " + r.Path
	if r.Query != "" {
		text += "?" + r.Query
	}
	text += " HTTP/1.1\r\n"
	for _, h := range r.Headers {
		if !nameForm.MatchString(h.Name) || !valueForm.MatchString(h.Value) || len(h.Value) > 1024 {
			return "", api.ErrHeader
		}
		text += h.Name + ": " + h.Value + "\r\n"
	}
	text += "\r\n" + string(r.Body)
	if _, e := parsed(text); e != api.OK {
		return "", e
	}
	return text, api.OK
}

// told: a request as a text that is another one for another request.
func told(r request.Request) string {
	out := fmt.Sprintf("%q %q %q %q", r.Method, r.Path, r.Query, string(r.Body))
	for _, h := range r.Headers {
		out += fmt.Sprintf(" %q: %q", h.Name, h.Value)
	}
	return out
}

// parses: Parse of the text tells that request.
func parses(t *testing.T, text string, want request.Request) {
	t.Helper()
	r, e := request.Parse([]byte(text))
	if e != api.OK || told(r) != told(want) {
		t.Errorf("Parse(%q): %s, %d, not %s", text, told(r), e, told(want))
	}
}

// refuses: Parse of the text refuses it by that error, with nothing beside it.
func refuses(t *testing.T, text string, want api.Errno) {
	t.Helper()
	r, e := request.Parse([]byte(text))
	if e != want || told(r) != told(request.Request{}) {
		t.Errorf("Parse(%q): %s, %d, not %d", text, told(r), e, want)
	}
}

// shows: Show of r are those bytes, and Parse of them is r again.
func shows(t *testing.T, r request.Request, want string) {
	t.Helper()
	b, e := request.Show(r)
	if e != api.OK || string(b) != want {
		t.Errorf("Show(%s): %q, %d, not %q", told(r), b, e, want)
	}
	parses(t, want, r)
}

// hides: Show of r refuses it by that error.
func hides(t *testing.T, r request.Request, want api.Errno) {
	t.Helper()
	if b, e := request.Show(r); e != want || b != nil {
		t.Errorf("Show(%s): %q, %d, not %d", told(r), b, e, want)
	}
}

// lines: so many headers x0: y, x1: y and so on.
func lines(count int) string {
	out := ""
	for i := range count {
		out += fmt.Sprintf("x%d: y\r\n", i)
	}
	return out
}

// header: a list of one.
func header(name, value string) []request.Header {
	return []request.Header{{Name: name, Value: value}}
}

// get: a request that fits, to be turned where a test asks for it.
func get() request.Request { return request.Request{Method: "GET", Path: "/b"} }

const (
	first = "GET /b HTTP/1.1\r\n"
	end   = "\r\n"
)

// P501

func TestParseExamples(t *testing.T) {
	parses(t, "GET /b/k?x=1 HTTP/1.1\r\nHost: a\r\n\r\n", request.Request{
		Method: "GET", Path: "/b/k", Query: "x=1", Headers: header("host", "a")})
	parses(t, "PUT /b/k HTTP/1.1\r\nZ: 1\r\nContent-Length: 5\r\na: \r\n\r\nh\r\n\x00\xff", request.Request{
		Method: "PUT", Path: "/b/k", Body: []byte("h\r\n\x00\xff"),
		Headers: []request.Header{{Name: "z", Value: "1"}, {Name: "content-length", Value: "5"}, {Name: "a"}}})
}

func TestParseMethods(t *testing.T) {
	for _, m := range []string{"GET", "PUT", "POST", "DELETE", "HEAD"} {
		parses(t, m+" / HTTP/1.1\r\n\r\n", request.Request{Method: m, Path: "/"})
		refuses(t, strings.ToLower(m)+" / HTTP/1.1\r\n\r\n", api.ErrMethod)
		refuses(t, m+"S / HTTP/1.1\r\n\r\n", api.ErrMethod)
		refuses(t, m[1:]+" / HTTP/1.1\r\n\r\n", api.ErrMethod)
	}
	for _, m := range []string{"", "PATCH", "OPTIONS", "TRACE", "GeT", "GET,PUT", "GETPUT"} {
		refuses(t, m+" / HTTP/1.1\r\n\r\n", api.ErrMethod)
	}
}

func TestParseFirstLine(t *testing.T) {
	for _, text := range []string{
		"", "\r", "\n", "GET / HTTP/1.1", "GET / HTTP/1.1\n\n", "GET / HTTP/1.1\r", "GET / HTTP/1.1\n\r",
		"GET / HTTP/1.1\nhost: a\r\n\r\n", "GET / HTTP/1.1\r\r\n\r\n", "\r\n\r\n", "\r\nGET / HTTP/1.1\r\n\r\n",
		"GET / HTTP/1.0\r\n\r\n", "GET / HTTP/1.10\r\n\r\n", "GET / HTTP/2\r\n\r\n", "GET / http/1.1\r\n\r\n",
		"GET / HTTP/1.1 \r\n\r\n", " GET / HTTP/1.1\r\n\r\n", "GET  / HTTP/1.1\r\n\r\n", "GET /  HTTP/1.1\r\n\r\n",
		"GET / /b HTTP/1.1\r\n\r\n", "GET\t/ HTTP/1.1\r\n\r\n", "GET /\tHTTP/1.1\r\n\r\n", "GET / \r\n\r\n",
		"GET /\r\n\r\n", "GET\r\n\r\n", "GET HTTP/1.1\r\n\r\n", "GET /HTTP/1.1\r\n\r\n", "GET/ HTTP/1.1\r\n\r\n",
		"GET /\x00 HTTP/1.1\r\n\r\n", "GET /\n HTTP/1.1\r\n\r\n", "GET /\r HTTP/1.1\r\n\r\n", "GET /\x7f HTTP/1.1\r\n\r\n",
		"GET /\x80 HTTP/1.1\r\n\r\n", "GET /é HTTP/1.1\r\n\r\n", "GET /?\x1f HTTP/1.1\r\n\r\n", "GET /?\xff HTTP/1.1\r\n\r\n",
	} {
		refuses(t, text, api.ErrMethod)
	}
	for b := range 256 {
		text := "GET /a" + string([]byte{byte(b)}) + "b?c HTTP/1.1\r\n\r\n"
		switch {
		case b < 0x21 || b > 0x7e:
			refuses(t, text, api.ErrMethod)
		case b == '%':
			parses(t, "GET /a%bb?c HTTP/1.1\r\n\r\n", request.Request{Method: "GET", Path: "/a%bb", Query: "c"})
			refuses(t, text, api.ErrPath)
		case b == '?':
			parses(t, text, request.Request{Method: "GET", Path: "/a", Query: "b?c"})
		default:
			parses(t, text, request.Request{Method: "GET", Path: "/a" + string(rune(b)) + "b", Query: "c"})
		}
	}
}

func TestParseTarget(t *testing.T) {
	for _, c := range []struct{ target, path, query string }{
		{"/", "/", ""}, {"/b", "/b", ""}, {"/b?", "/b", ""}, {"/?", "/", ""}, {"/b?x", "/b", "x"}, {"/b?x=?", "/b", "x=?"},
		{"/b??", "/b", "?"}, {"/b?x=1&y=2?z", "/b", "x=1&y=2?z"}, {"/b/k%3Fl?%3f=1", "/b/k%3Fl", "%3f=1"},
		{"/b/k/l//", "/b/k/l//", ""}, {"/b/%00%FF", "/b/%00%FF", ""}, {"/!\"#$&'()*+,-.:;<=>@[]^_`{|}~", "/!\"#$&'()*+,-.:;<=>@[]^_`{|}~", ""},
	} {
		parses(t, "GET "+c.target+" HTTP/1.1\r\n\r\n", request.Request{Method: "GET", Path: c.path, Query: c.query})
	}
	long := "/" + strings.Repeat("a", 1023)
	parses(t, "GET "+long+" HTTP/1.1\r\n\r\n", request.Request{Method: "GET", Path: long})
	refuses(t, "GET "+long+"a HTTP/1.1\r\n\r\n", api.ErrMethod)
	refuses(t, "GET "+long+"? HTTP/1.1\r\n\r\n", api.ErrMethod)
	query := "x=" + strings.Repeat("a", 1019)
	parses(t, "GET /b?"+query+" HTTP/1.1\r\n\r\n", request.Request{Method: "GET", Path: "/b", Query: query})
	parses(t, "GET /?"+query+"b HTTP/1.1\r\n\r\n", request.Request{Method: "GET", Path: "/", Query: query + "b"})
	refuses(t, "GET /b?"+query+"b HTTP/1.1\r\n\r\n", api.ErrMethod)
}

func TestParsePathsAndQueriesThatUriRefuses(t *testing.T) {
	many := []string{}
	for i := range api.MaxHeaders {
		many = append(many, fmt.Sprint("x", i))
	}
	full := strings.Join(many, "&")
	parses(t, "GET /?"+full+" HTTP/1.1\r\n\r\n", request.Request{Method: "GET", Path: "/", Query: full})
	for _, target := range []string{
		"", "?", "?x=1", "b", "b/k", "*", "http://a/b", "//k", "//k?x", "/%", "/%2", "/%g0", "/b/%0g", "/%?x", "/b/k%%",
		"/?=", "/?=1", "/?&", "/?x&", "/?x&x", "/?x=1&x=2", "/?x&%78", "/?%", "/?x=%f", "/b?x=%gg", "/?" + full + "&y",
	} {
		refuses(t, "GET "+target+" HTTP/1.1\r\n\r\n", api.ErrPath)
	}
}

func TestParseHeaderLines(t *testing.T) {
	for _, c := range []struct{ line, name, value string }{
		{"a:b", "a", "b"}, {"a: b", "a", "b"}, {"a:    b", "a", "b"}, {"a:b  ", "a", "b"}, {"a:  b  ", "a", "b"},
		{"a:", "a", ""}, {"a: ", "a", ""}, {"a:      ", "a", ""}, {"a: b c  d ", "a", "b c  d"}, {"a::", "a", ":"},
		{"a: b: c", "a", "b: c"}, {"AbC-Z_09: Q", "abc-z_09", "Q"}, {"-:x", "-", "x"}, {"_:x", "_", "x"}, {"0:x", "0", "x"},
		{"HOST: A", "host", "A"}, {"hOsT: ~!", "host", "~!"}, {"a:" + strings.Repeat(" ", 2000) + "b", "a", "b"},
	} {
		parses(t, first+c.line+"\r\n\r\n", request.Request{Method: "GET", Path: "/b", Headers: header(c.name, c.value)})
	}
	for _, line := range []string{
		"a", "a b", ":", ":a", ": a", " : a", "a : b", " a: b", "a\t: b", "a:\tb", "a: b\t", "a.b: c", "a b: c", "é: a",
		"a: é", "a: \x00", "a: \x1f", "a: \x7f", "a: b\n", "a: b\r", "a: b\nc: d", "a\n: b", "a: b\rc", " ", "\n", "\r",
		"GET / HTTP/1.1", "(a): b", "a/b: c", "@: a", "[: a", "`: a", "{: a", "a: \x80", "a: b \xff",
	} {
		refuses(t, first+line+"\r\n\r\n", api.ErrHeader)
	}
}

func TestParseHeaderBytes(t *testing.T) {
	const token = "abcdefghijklmnopqrstuvwxyzABCDEFGHIJKLMNOPQRSTUVWXYZ0123456789-_"
	for b := range 256 {
		sign := string([]byte{byte(b)})
		name, value := first+"n"+sign+"m: v\r\n\r\n", first+"n: v"+sign+"w\r\n\r\n"
		switch {
		case strings.Contains(token, sign):
			parses(t, name, request.Request{Method: "GET", Path: "/b", Headers: header("n"+strings.ToLower(sign)+"m", "v")})
		case b == ':':
			parses(t, name, request.Request{Method: "GET", Path: "/b", Headers: header("n", "m: v")})
		default:
			refuses(t, name, api.ErrHeader)
		}
		if b < 0x20 || b > 0x7e {
			refuses(t, value, api.ErrHeader)
		} else {
			parses(t, value, request.Request{Method: "GET", Path: "/b", Headers: header("n", "v"+sign+"w")})
		}
	}
}

func TestParseHeaderSizes(t *testing.T) {
	token, value := strings.Repeat("T", 64), strings.Repeat("v", 1024)
	small := strings.ToLower(token)
	parses(t, first+token+": x\r\n\r\n", request.Request{Method: "GET", Path: "/b", Headers: header(small, "x")})
	refuses(t, first+token+"T: x\r\n\r\n", api.ErrHeader)
	parses(t, first+"a:  "+value+"  \r\n\r\n", request.Request{Method: "GET", Path: "/b", Headers: header("a", value)})
	refuses(t, first+"a: "+value+"v\r\n\r\n", api.ErrHeader)
	refuses(t, first+"a:"+value+"v\r\n\r\n", api.ErrHeader)
}

func TestParseHowManyHeaders(t *testing.T) {
	for _, count := range []int{0, 1, 2, api.MaxHeaders - 1, api.MaxHeaders} {
		want := get()
		for i := range count {
			want.Headers = append(want.Headers, request.Header{Name: fmt.Sprint("x", i), Value: "y"})
		}
		parses(t, first+lines(count)+end, want)
	}
	refuses(t, first+lines(api.MaxHeaders+1)+end, api.ErrHeader)
	refuses(t, first+lines(api.MaxHeaders)+"x0: y\r\n\r\n", api.ErrHeader)
}

func TestParseNamesTwice(t *testing.T) {
	refuses(t, first+"a: 1\r\na: 1\r\n\r\n", api.ErrHeader)
	refuses(t, first+"a: 1\r\nA: 2\r\n\r\n", api.ErrHeader)
	refuses(t, first+"Ab-c: 1\r\nx: y\r\naB-C: 2\r\n\r\n", api.ErrHeader)
	refuses(t, first+"Content-Length: 0\r\ncontent-length: 0\r\n\r\n", api.ErrHeader)
	parses(t, first+"a: 1\r\na-: 1\r\n\r\n", request.Request{Method: "GET", Path: "/b",
		Headers: []request.Header{{Name: "a", Value: "1"}, {Name: "a-", Value: "1"}}})
}

func TestParseWithoutAnEmptyLine(t *testing.T) {
	for _, text := range []string{
		first, first + "\n", first + "\r", first + "a: b", first + "a: b\r\n", first + "a: b\r\n\n", first + "a: b\n\n",
		first + "a: b\r\n\r", first + "a: b\r\nc: d\r\n", first + "a: b\n\r\n", first + " \r\n",
	} {
		refuses(t, text, api.ErrHeader)
	}
}

func TestParseLengths(t *testing.T) {
	with := func(length, body string) string { return first + "Content-Length:" + length + "\r\n\r\n" + body }
	is := func(length, body string) request.Request {
		return request.Request{Method: "GET", Path: "/b", Headers: header("content-length", length), Body: []byte(body)}
	}
	parses(t, with("0", ""), is("0", ""))
	parses(t, with(" 2 ", "hi"), is("2", "hi"))
	parses(t, with("10", "0123456789"), is("10", "0123456789"))
	parses(t, with("4", "\r\n\r\n"), is("4", "\r\n\r\n"))
	parses(t, first+end, get())
	for _, length := range []string{
		"", "1", "3", "02", "002", "+2", "-2", "2.0", "2 2", "0x2", "2a", "a", "2_", "20", "22", "2,2", "18446744073709551618",
		"4097", "99999999999999999999999",
	} {
		refuses(t, with(length, "hi"), api.ErrLength)
	}
	refuses(t, with("00", ""), api.ErrLength)
	refuses(t, with("", ""), api.ErrLength)
	refuses(t, with("-0", ""), api.ErrLength)
	refuses(t, with("18446744073709551616", ""), api.ErrLength)
	refuses(t, with("1", ""), api.ErrLength)
	refuses(t, with("0", "h"), api.ErrLength)
	refuses(t, first+end+"h", api.ErrLength)
	refuses(t, first+end+"\r\n", api.ErrLength)
	refuses(t, first+"x-content-length: 1\r\n\r\nh", api.ErrLength)
}

func TestParseHowManyBytes(t *testing.T) {
	head := "PUT /b/k HTTP/1.1\r\ncontent-length: "
	for size := api.MaxRequest - 2; size <= api.MaxRequest+2; size++ {
		body := strings.Repeat("x", size-len(head)-8)
		text := head + fmt.Sprint(len(body)) + "\r\n\r\n" + body
		if len(text) != size {
			t.Fatalf("a text of %d bytes, not %d", len(text), size)
		}
		if size > api.MaxRequest {
			refuses(t, text, api.ErrBig)
		} else {
			parses(t, text, request.Request{Method: "PUT", Path: "/b/k", Body: []byte(body),
				Headers: header("content-length", fmt.Sprint(len(body)))})
		}
	}
	refuses(t, strings.Repeat("x", api.MaxRequest), api.ErrMethod)
	refuses(t, strings.Repeat("x", api.MaxRequest+1), api.ErrBig)
}

func TestParseTellsTheFirst(t *testing.T) {
	big := strings.Repeat("x", api.MaxRequest)
	refuses(t, "get / HTTP/1.1\r\nbad\r\n\r\n"+big, api.ErrBig)
	refuses(t, "get b HTTP/1.1\r\nbad\r\n\r\nbody", api.ErrMethod)
	refuses(t, "get /b HTTP/1.1\r\n", api.ErrMethod)
	refuses(t, "get b HTTP/1.1\r\n\r\nbody", api.ErrMethod)
	refuses(t, "GET b HTTP/1.1\r\nbad\r\n\r\nbody", api.ErrHeader)
	refuses(t, "GET b HTTP/1.1\r\na: 1\r\nA: 1\r\n\r\nbody", api.ErrHeader)
	refuses(t, "GET /?% HTTP/1.1\r\n"+lines(api.MaxHeaders+1)+"\r\nbody", api.ErrHeader)
	refuses(t, "GET /?% HTTP/1.1\r\ncontent-length: x\r\n", api.ErrHeader)
	refuses(t, "GET b HTTP/1.1\r\n\r\nbody", api.ErrPath)
	refuses(t, "GET /?x&x HTTP/1.1\r\ncontent-length: x\r\n\r\n", api.ErrPath)
	refuses(t, "GET /?x HTTP/1.1\r\ncontent-length: x\r\n\r\n", api.ErrLength)
}

// pieces: one of them, by chance.
func pieces(random *rand.Rand, of ...string) string { return of[random.Intn(len(of))] }

// mostly: one of the good ones, seldom one of the odd ones.
func mostly(random *rand.Rand, good []string, odd ...string) string {
	if random.Intn(20) == 0 {
		return pieces(random, odd...)
	}
	return pieces(random, good...)
}

// around: a text of so many signs, or up to 5 fewer or more.
func around(random *rand.Rand, sign string, count int) string {
	return strings.Repeat(sign, count-5+random.Intn(11))
}

// anyCount: how many headers; often few, at times as many as there may be.
func anyCount(random *rand.Rand) int {
	if random.Intn(8) == 0 {
		return api.MaxHeaders - 3 + random.Intn(5)
	}
	return random.Intn(4)
}

// anyBody: a body; often short, at times one that nearly fills a request.
func anyBody(random *rand.Rand) string {
	return pieces(random, "", "", "", "hi", "h", "\r\n", "\r\n\r\n", strings.Repeat("b", 2900+random.Intn(1200)))
}

// anyRequest: the bytes of a request, at times with something odd.
func anyRequest(random *rand.Rand) string {
	text := mostly(random, []string{"GET", "PUT", "POST", "DELETE", "HEAD"}, "get", "X", "")
	text += mostly(random, []string{" "}, "  ", "\t", "")
	text += mostly(random, []string{"/", "/b", "/b/k", "/b/%41", "/b/"}, "/b/%4", "b", "//k", "", "/"+around(random, "p", 1023))
	text += mostly(random, []string{"", "?", "?x", "?x=1&y=2", "?a?b", "??"}, "?x&x", "?x=%", "?=", "?"+around(random, "q", 1023))
	text += mostly(random, []string{" HTTP/1.1\r\n"}, " HTTP/1.0\r\n", "HTTP/1.1\r\n", " HTTP/1.1\n")
	body := anyBody(random)
	for i := range anyCount(random) {
		text += pieces(random, "x", "Y-_", "host", "Z") + pieces(random, fmt.Sprint(i), fmt.Sprint("Q", i))
		text += pieces(random, ":", ": ", ":  ")
		text += pieces(random, "v", "", "v w", "a:b", "1")
		text += pieces(random, "\r\n", " \r\n", "  \r\n")
	}
	text += mostly(random, []string{""}, "x: 1\r\nX: 2\r\n", "bad\r\n", "a : b\r\n", "a: \x7f\r\n", "a: b\n", "a: "+around(random, "v", 1024)+"\r\n")
	if length := fmt.Sprint(len(body)); body != "" || random.Intn(2) == 0 {
		text += mostly(random, []string{"content-length: ", "Content-Length:", "CONTENT-LENGTH:  "}, "x-length:")
		text += mostly(random, []string{length}, "0"+length, length+"0", "x", "-"+length, "") + "\r\n"
	}
	return text + mostly(random, []string{"\r\n"}, "\n", "") + body
}

// holdsParse: Parse of the text is as the words say.
func holdsParse(t *testing.T, text string) api.Errno {
	t.Helper()
	r, e := request.Parse([]byte(text))
	want, wantE := parsed(text)
	if e != wantE || told(r) != told(want) {
		t.Fatalf("Parse(%q): %s, %d, not %s, %d", text, told(r), e, told(want), wantE)
	}
	return e
}

func TestParseSamples(t *testing.T) {
	random := rand.New(rand.NewSource(5))
	counts := map[api.Errno]int{}
	for range 30000 {
		counts[holdsParse(t, anyRequest(random))]++
	}
	for _, e := range []api.Errno{api.OK, api.ErrBig, api.ErrMethod, api.ErrHeader, api.ErrPath, api.ErrLength} {
		if counts[e] < 30 {
			t.Errorf("only %d samples of %d", counts[e], e)
		}
	}
}

func TestParseOfEachCutAndTurn(t *testing.T) {
	text := "PUT /b/k?x=1&y=%20 HTTP/1.1\r\nHost: a b \r\nContent-Length: 2\r\n\r\nhi"
	for i := range len(text) + 1 {
		holdsParse(t, text[:i])
		for _, sign := range []string{" ", "\r", "\n", "\r\n", ":", "?", "%", "0", "a", "\x00", "\xff"} {
			holdsParse(t, text[:i]+sign+text[i:])
			if i < len(text) {
				holdsParse(t, text[:i]+sign+text[i+1:])
			}
		}
	}
}

func TestParseNewMemory(t *testing.T) {
	text := "PUT /b/k?x=1 HTTP/1.1\r\nHost: a\r\nContent-Length: 2\r\n\r\nhi"
	b := append(make([]byte, 0, 200), text...)
	room := b[:200]
	r, _ := request.Parse(b)
	if string(b) != text || slices.Max(room[len(text):]) != 0 {
		t.Error("Parse turned what it was given")
	}
	before := told(r)
	for i := range room {
		room[i] = 'z'
	}
	if told(r) != before {
		t.Error("Parse kept what it was given")
	}
	other, _ := request.Parse([]byte(text))
	for i := range r.Body[:cap(r.Body)] {
		r.Body[:cap(r.Body)][i] = 'z'
	}
	for i := range r.Headers[:cap(r.Headers)] {
		r.Headers[:cap(r.Headers)][i] = request.Header{Name: "z", Value: "z"}
	}
	if told(other) != before || slices.Max(room) != 'z' || slices.Min(room) != 'z' {
		t.Error("two requests share memory")
	}
}

// P502

func TestShowExamples(t *testing.T) {
	shows(t, get(), "GET /b HTTP/1.1\r\n\r\n")
	shows(t, request.Request{Method: "PUT", Path: "/b/k", Query: "x=1", Body: []byte("hi"),
		Headers: []request.Header{{Name: "host", Value: "a"}, {Name: "content-length", Value: "2"}}},
		"PUT /b/k?x=1 HTTP/1.1\r\nhost: a\r\ncontent-length: 2\r\n\r\nhi")
	shows(t, request.Request{Method: "HEAD", Path: "/", Query: "?", Headers: header("a", "")}, "HEAD /?? HTTP/1.1\r\na: \r\n\r\n")
	shows(t, request.Request{Method: "POST", Path: "/b", Headers: header("a-_0", "b  c: d")}, "POST /b HTTP/1.1\r\na-_0: b  c: d\r\n\r\n")
	shows(t, request.Request{Method: "DELETE", Path: "/b", Headers: header("content-length", "4"), Body: []byte("\r\n\x00\xff")},
		"DELETE /b HTTP/1.1\r\ncontent-length: 4\r\n\r\n\r\n\x00\xff")
	shows(t, request.Request{Method: "GET", Path: "/b", Headers: header("content-length", "0"), Body: []byte{}},
		"GET /b HTTP/1.1\r\ncontent-length: 0\r\n\r\n")
}

func TestShowMethods(t *testing.T) {
	for _, m := range []string{"", "get", "GET ", " GET", "GET / HTTP/1.1\r\n\r\nGET", "PATCH", "GETPUT", "Head"} {
		r := get()
		r.Method = m
		hides(t, r, api.ErrMethod)
	}
}

func TestShowTargets(t *testing.T) {
	for _, c := range []struct{ path, query string }{
		{"", ""}, {"", "x"}, {"b", ""}, {"/b ", ""}, {"/b c", ""}, {"/b?", ""}, {"/b?x", ""}, {"/b?x", "y"}, {"?", ""}, {"/b\r\n", ""},
		{"/é", ""}, {"/\x7f", ""}, {"/\x00", ""}, {"/%", ""}, {"//k", ""}, {"/b", " "}, {"/b", "x=1 "}, {"/b", "x y"}, {"/b", "\x7f"},
		{"/b", "\xff"}, {"/b", "x\r\n"}, {"/b", "%"}, {"/b", "x&x"}, {"/b", "="}, {"/b", "&"}, {"/b HTTP/1.1\r\n\r\n", ""},
		{"/b", "x HTTP/1.1\r\na: b"},
	} {
		hides(t, request.Request{Method: "GET", Path: c.path, Query: c.query}, api.ErrPath)
	}
}

func TestShowSizesOfTargets(t *testing.T) {
	path := "/" + strings.Repeat("a", 1023)
	shows(t, request.Request{Method: "GET", Path: path}, "GET "+path+" HTTP/1.1\r\n\r\n")
	hides(t, request.Request{Method: "GET", Path: path + "a"}, api.ErrPath)
	query := strings.Repeat("q", 1022)
	shows(t, request.Request{Method: "GET", Path: "/", Query: query}, "GET /?"+query+" HTTP/1.1\r\n\r\n")
	hides(t, request.Request{Method: "GET", Path: "/", Query: query + "qq"}, api.ErrPath)
	hides(t, request.Request{Method: "GET", Path: "/", Query: query + "qqq"}, api.ErrPath)
	// Each is that of a target, both are of none: so Parse has the word.
	hides(t, request.Request{Method: "GET", Path: "/", Query: query + "q"}, api.ErrMethod)
	hides(t, request.Request{Method: "GET", Path: path, Query: "q"}, api.ErrMethod)
}

func TestShowHeaders(t *testing.T) {
	for _, h := range []request.Header{
		{Name: "", Value: "a"}, {Name: "a b", Value: "c"}, {Name: "a:", Value: "c"}, {Name: "a:b", Value: "c"}, {Name: "a ", Value: "b"},
		{Name: "a\r\nb", Value: "c"}, {Name: "é", Value: "c"}, {Name: "a.b", Value: "c"}, {Name: "A", Value: "c"}, {Name: "hosT", Value: "c"},
		{Name: "a", Value: " b"}, {Name: "a", Value: "b "}, {Name: "a", Value: " "}, {Name: "a", Value: "b\r\nc: d"}, {Name: "a", Value: "b\r\n"},
		{Name: "a", Value: "\t"}, {Name: "a", Value: "é"}, {Name: "a", Value: "\x7f"}, {Name: "a", Value: "b\nc"},
		{Name: strings.Repeat("a", 65), Value: "b"}, {Name: "a", Value: strings.Repeat("b", 1025)},
	} {
		r := get()
		r.Headers = []request.Header{{Name: "x", Value: "y"}, h}
		hides(t, r, api.ErrHeader)
		r.Headers = []request.Header{h, {Name: "x", Value: "y"}}
		hides(t, r, api.ErrHeader)
	}
	name, value := strings.Repeat("a", 64), strings.Repeat("b", 1024)
	shows(t, request.Request{Method: "GET", Path: "/b", Headers: header(name, value)}, first+name+": "+value+"\r\n\r\n")
}

func TestShowWhatParseRefuses(t *testing.T) {
	many := get()
	for i := range api.MaxHeaders + 1 {
		many.Headers = append(many.Headers, request.Header{Name: fmt.Sprint("x", i), Value: "y"})
	}
	hides(t, many, api.ErrHeader)
	many.Headers = many.Headers[:api.MaxHeaders]
	shows(t, many, first+lines(api.MaxHeaders)+end)
	twice := get()
	twice.Headers = []request.Header{{Name: "a", Value: "1"}, {Name: "b"}, {Name: "a", Value: "1"}}
	hides(t, twice, api.ErrHeader)
	body := get()
	body.Body = []byte("h")
	hides(t, body, api.ErrLength)
	for _, length := range []string{"", "0", "2", "01", "+1", "x", "4097"} {
		body.Headers = header("content-length", length)
		hides(t, body, api.ErrLength)
	}
	head := first + "content-length: 4059\r\n\r\n"
	for size := 4096 - len(head) - 1; size <= 4096-len(head)+1; size++ {
		r := request.Request{Method: "GET", Path: "/b", Headers: header("content-length", fmt.Sprint(size)), Body: bytes.Repeat([]byte("x"), size)}
		if size > 4096-len(head) {
			hides(t, r, api.ErrBig)
		} else {
			shows(t, r, first+"content-length: "+fmt.Sprint(size)+"\r\n\r\n"+strings.Repeat("x", size))
		}
	}
}

func TestShowTellsTheFirst(t *testing.T) {
	big := bytes.Repeat([]byte("x"), api.MaxRequest)
	long := strings.Repeat("q", 1020)
	for _, c := range []struct {
		r    request.Request
		want api.Errno
	}{
		{request.Request{Method: "get", Path: "?", Headers: header("A", " "), Body: big}, api.ErrMethod},
		{request.Request{Method: "GET", Path: "/b?", Headers: header("A", " "), Body: big}, api.ErrPath},
		{request.Request{Method: "GET", Path: "/b", Query: " ", Headers: header("a", " "), Body: big}, api.ErrPath},
		{request.Request{Method: "GET", Path: "b", Query: "%", Headers: header("A", "b"), Body: big}, api.ErrHeader},
		{request.Request{Method: "GET", Path: "/", Query: "%", Headers: header("a", " b"), Body: big}, api.ErrHeader},
		{request.Request{Method: "GET", Path: "/bcde", Query: long, Headers: header("A", "b")}, api.ErrHeader},
		{request.Request{Method: "GET", Path: "/b", Headers: header("Content-length", "7")}, api.ErrHeader},
		{request.Request{Method: "GET", Path: "b", Query: "%", Headers: header("a", "b"), Body: big}, api.ErrBig},
		{request.Request{Method: "GET", Path: "/bcde", Query: long, Headers: header("a", "b"), Body: big}, api.ErrBig},
		{request.Request{Method: "GET", Path: "bcdef", Query: long, Headers: append(header("a", "b"), header("a", "b")...)}, api.ErrMethod},
		{request.Request{Method: "GET", Path: "b", Headers: append(header("a", "b"), header("a", "b")...), Body: []byte("h")}, api.ErrHeader},
		{request.Request{Method: "GET", Path: "b", Headers: header("content-length", "7")}, api.ErrPath},
		{request.Request{Method: "GET", Path: "/b", Headers: header("content-length", "7")}, api.ErrLength},
	} {
		hides(t, c.r, c.want)
	}
}

// anyFields: a request of fields that fit, at times with something odd.
func anyFields(random *rand.Rand) request.Request {
	r := request.Request{
		Method: mostly(random, []string{"GET", "PUT", "POST", "DELETE", "HEAD"}, "get", ""),
		Path:   mostly(random, []string{"/", "/b", "/b/k", "/b/%41", "/b/"}, "/b/%4", "b", "/b?", "/ ", "/"+around(random, "p", 1023)),
		Query:  mostly(random, []string{"", "x", "x=1&y=2", "a?b", "?"}, "x&x", "%", " ", around(random, "q", 1023)),
		Body:   []byte(anyBody(random)),
	}
	for i := range anyCount(random) {
		r.Headers = append(r.Headers, request.Header{
			Name:  pieces(random, "a", "b", "c-", "d_") + fmt.Sprint(i),
			Value: pieces(random, "v", "", "v w", "q", ":", "0"),
		})
	}
	odd := []request.Header{{Name: "A"}, {Name: "a:", Value: "b"}, {}, {Name: "a", Value: "b "}, {Name: "a", Value: around(random, "v", 1024)},
		{Name: around(random, "n", 64)}, {Name: "a0"}, {Name: "x", Value: "\r\n"}}
	if random.Intn(10) == 0 {
		r.Headers = append(r.Headers, odd[random.Intn(len(odd))])
	}
	if length := fmt.Sprint(len(r.Body)); len(r.Body) > 0 || random.Intn(2) == 0 {
		r.Headers = slices.Insert(r.Headers, random.Intn(len(r.Headers)+1), request.Header{
			Name:  mostly(random, []string{"content-length"}, "Content-Length", "x-length"),
			Value: mostly(random, []string{length}, "0"+length, length+"0", "x", ""),
		})
	}
	return r
}

func TestShowSamples(t *testing.T) {
	random := rand.New(rand.NewSource(55))
	counts := map[api.Errno]int{}
	for range 30000 {
		r := anyFields(random)
		b, e := request.Show(r)
		want, wantE := shown(r)
		if e != wantE || string(b) != want {
			t.Fatalf("Show(%s): %q, %d, not %q, %d", told(r), b, e, want, wantE)
		}
		if e == api.OK {
			parses(t, string(b), r)
		}
		counts[e]++
	}
	for _, e := range []api.Errno{api.OK, api.ErrBig, api.ErrMethod, api.ErrHeader, api.ErrPath, api.ErrLength} {
		if counts[e] < 30 {
			t.Errorf("only %d samples of %d", counts[e], e)
		}
	}
}

func TestShowNewMemory(t *testing.T) {
	r := request.Request{Method: "PUT", Path: "/b", Headers: make([]request.Header, 2, 9), Body: append(make([]byte, 0, 90), "hi"...)}
	r.Headers[0], r.Headers[1] = request.Header{Name: "a", Value: "b"}, request.Header{Name: "content-length", Value: "2"}
	before := told(r)
	b, _ := request.Show(r)
	if told(r) != before || slices.Max(r.Body[2:90]) != 0 || r.Headers[:9][2].Name != "" {
		t.Error("Show turned what it was given")
	}
	again, _ := request.Show(r)
	text := string(b)
	for i := range b[:cap(b)] {
		b[:cap(b)][i] = 'z'
	}
	if told(r) != before || slices.Max(r.Body[2:90]) != 0 || string(again) != text {
		t.Error("Show handed out what it was given, or what it handed out before")
	}
	r.Body[0] = 'q'
	if string(again) != text {
		t.Error("Show kept the body")
	}
}

// P503

func TestGet(t *testing.T) {
	r := request.Request{Headers: []request.Header{{Name: "a", Value: "1"}, {Name: "b", Value: ""}, {Name: "a", Value: "2"}, {Name: "", Value: "3"}, {Name: "C", Value: "4"}}}
	for _, c := range []struct {
		name, value string
		ok          bool
	}{{"a", "1", true}, {"b", "", true}, {"", "3", true}, {"C", "4", true}, {"c", "", false}, {"A", "", false}, {"ab", "", false}, {"a ", "", false}} {
		if value, ok := request.Get(r, c.name); value != c.value || ok != c.ok {
			t.Errorf("Get(%q): %q, %t", c.name, value, ok)
		}
	}
	if value, ok := request.Get(request.Request{}, ""); value != "" || ok {
		t.Errorf("Get of no header: %q, %t", value, ok)
	}
}

// number: as the words say, by numbers of any size.
func number(s string, most uint64) (uint64, api.Errno) {
	if !numberForm.MatchString(s) {
		return 0, api.ErrNumber
	}
	n, _ := new(big.Int).SetString(s, 10)
	if n.Cmp(new(big.Int).SetUint64(most)) > 0 {
		return 0, api.ErrNumber
	}
	return n.Uint64(), api.OK
}

func TestNumber(t *testing.T) {
	for _, c := range []struct {
		s    string
		most uint64
		n    uint64
		e    api.Errno
	}{
		{"0", 0, 0, api.OK}, {"0", 9, 0, api.OK}, {"1", 0, 0, api.ErrNumber}, {"1", 1, 1, api.OK}, {"2", 1, 0, api.ErrNumber},
		{"4096", 4096, 4096, api.OK}, {"4097", 4096, 0, api.ErrNumber}, {"10", 9, 0, api.ErrNumber}, {"9", 10, 9, api.OK},
		{"18446744073709551615", math.MaxUint64, math.MaxUint64, api.OK}, {"18446744073709551615", math.MaxUint64 - 1, 0, api.ErrNumber},
		{"18446744073709551616", math.MaxUint64, 0, api.ErrNumber}, {"28446744073709551615", math.MaxUint64, 0, api.ErrNumber},
		{"18446744073709551620", 100, 0, api.ErrNumber}, {"340282366920938463463374607431768211456", math.MaxUint64, 0, api.ErrNumber},
	} {
		if n, e := request.Number(c.s, c.most); n != c.n || e != c.e {
			t.Errorf("Number(%q, %d): %d, %d", c.s, c.most, n, e)
		}
	}
	for _, s := range []string{
		"", " ", "00", "01", "007", "+1", "-1", "-0", "+0", " 1", "1 ", "1.0", "1e1", "0x1", "0b1", "1_0", "_1", "a", "1a", "a1", "１", "٣", "1\x00", "\x001",
		"000000000000000000000000000001", "1\n", "²",
	} {
		if n, e := request.Number(s, math.MaxUint64); n != 0 || e != api.ErrNumber {
			t.Errorf("Number(%q): %d, %d", s, n, e)
		}
	}
}

func TestNumberOfEachByte(t *testing.T) {
	for b := range 256 {
		for _, s := range []string{string([]byte{byte(b)}), string([]byte{byte(b), '1'}), string([]byte{'1', byte(b)}), string([]byte{'1', byte(b), '1'})} {
			holdsNumber(t, s, math.MaxUint64)
			holdsNumber(t, s, 11)
		}
	}
}

// holdsNumber: Number is as the words say.
func holdsNumber(t *testing.T, s string, most uint64) {
	t.Helper()
	n, e := request.Number(s, most)
	want, wantE := number(s, most)
	if n != want || e != wantE {
		t.Errorf("Number(%q, %d): %d, %d, not %d, %d", s, most, n, e, want, wantE)
	}
}

func TestNumberSamples(t *testing.T) {
	random := rand.New(rand.NewSource(503))
	for range 20000 {
		n := random.Uint64() >> random.Intn(64)
		s := fmt.Sprint(n)
		for _, most := range []uint64{n, n - 1, n + 1, 0, math.MaxUint64, random.Uint64()} {
			holdsNumber(t, s, most)
		}
		holdsNumber(t, s+fmt.Sprint(random.Intn(10)), math.MaxUint64)
		holdsNumber(t, "0"+s, math.MaxUint64)
	}
}

// P504

func TestAnswer(t *testing.T) {
	for _, c := range []struct {
		status  int
		headers []request.Header
		body    string
		want    string
	}{
		{200, nil, "", "HTTP/1.1 200\r\ncontent-length: 0\r\n\r\n"},
		{404, header("x", "y"), "z", "HTTP/1.1 404\r\nx: y\r\ncontent-length: 1\r\n\r\nz"},
		{0, []request.Header{}, "", "HTTP/1.1 0\r\ncontent-length: 0\r\n\r\n"},
		{-1, nil, "", "HTTP/1.1 0\r\ncontent-length: 0\r\n\r\n"},
		{math.MinInt, nil, "", "HTTP/1.1 0\r\ncontent-length: 0\r\n\r\n"},
		{math.MaxInt, nil, "", "HTTP/1.1 9223372036854775807\r\ncontent-length: 0\r\n\r\n"},
		{1, nil, "0123456789\r\n\x00\xff", "HTTP/1.1 1\r\ncontent-length: 14\r\n\r\n0123456789\r\n\x00\xff"},
		{7, []request.Header{{Name: "B", Value: " v "}, {Name: "a", Value: ""}, {Name: "B", Value: "w"}, {Name: "", Value: ""}}, "q",
			"HTTP/1.1 7\r\nB:  v \r\na: \r\nB: w\r\n: \r\ncontent-length: 1\r\n\r\nq"},
		{7, header("content-length", "9"), "q", "HTTP/1.1 7\r\ncontent-length: 9\r\ncontent-length: 1\r\n\r\nq"},
	} {
		if got := request.Answer(c.status, c.headers, []byte(c.body)); string(got) != c.want {
			t.Errorf("Answer(%d): %q, not %q", c.status, got, c.want)
		}
	}
}

func TestAnswerBeyondTheLimitsOfRequests(t *testing.T) {
	body := strings.Repeat("b", 3*api.MaxRequest)
	headers, text := []request.Header{}, ""
	for i := range 2 * api.MaxHeaders {
		name, value := fmt.Sprint("é ", i), strings.Repeat("v", 100*i)
		headers = append(headers, request.Header{Name: name, Value: value})
		text += name + ": " + value + "\r\n"
	}
	want := "HTTP/1.1 200\r\n" + text + "content-length: 12288\r\n\r\n" + body
	if got := request.Answer(200, headers, []byte(body)); string(got) != want {
		t.Errorf("Answer: %q, not %q", got, want)
	}
}

func TestAnswerNewMemory(t *testing.T) {
	headers := append(make([]request.Header, 0, 9), header("a", "b")...)
	body := append(make([]byte, 0, 90), "hi"...)
	b := request.Answer(1, headers, body)
	text := string(b)
	again := request.Answer(1, headers, body)
	for i := range b[:cap(b)] {
		b[:cap(b)][i] = 'z'
	}
	if string(body) != "hi" || slices.Max(body[2:90]) != 0 || headers[:9][1].Name != "" || string(again) != text {
		t.Error("Answer turned what it was given, or handed it out")
	}
	body[0] = 'q'
	if string(again) != text {
		t.Error("Answer kept the body")
	}
}

// P505

// backAgain: where Show tells bytes of r, Parse of them is r.
func backAgain(t *testing.T, r request.Request) bool {
	t.Helper()
	b, e := request.Show(r)
	if e != api.OK {
		return false
	}
	got, e := request.Parse(b)
	if e != api.OK || told(got) != told(r) {
		t.Fatalf("Parse of Show(%s): %s, %d", told(r), told(got), e)
	}
	return true
}

func TestBackOfWhatWasParsed(t *testing.T) {
	random := rand.New(rand.NewSource(505))
	count := 0
	for range 30000 {
		r, e := request.Parse([]byte(anyRequest(random)))
		if e != api.OK {
			continue
		}
		count++
		// A request of many blanks or of an empty query is shown by fewer
		// bytes, one of no blank by more.
		if b, e := request.Show(r); e != api.OK && e != api.ErrBig {
			t.Fatalf("Show(%s): %q, %d", told(r), b, e)
		}
		backAgain(t, r)
	}
	if count < 10000 {
		t.Errorf("only %d requests", count)
	}
}

func TestBackOfFields(t *testing.T) {
	random := rand.New(rand.NewSource(5050))
	count := 0
	for range 30000 {
		if backAgain(t, anyFields(random)) {
			count++
		}
	}
	if count < 10000 {
		t.Errorf("only %d requests", count)
	}
}

func TestBackNeverSmuggles(t *testing.T) {
	signs := []string{" ", "?", ":", "\r\n", "\n", "\r", "\x00", "%41", "%", "/", "A", "a", "é", " HTTP/1.1\r\n", "\r\n\r\n"}
	for _, sign := range signs {
		for i := range 4 {
			with := func(s string) string { return s[:min(i, len(s))] + sign + s[min(i, len(s)):] }
			for place := range 6 {
				r := request.Request{Method: "PUT", Path: "/b/k", Query: "x=1", Body: []byte("hi"),
					Headers: []request.Header{{Name: "host", Value: "a"}, {Name: "content-length", Value: "2"}}}
				texts := []*string{&r.Method, &r.Path, &r.Query, &r.Headers[0].Name, &r.Headers[0].Value, &r.Headers[1].Value}
				*texts[place] = with(*texts[place])
				backAgain(t, r)
				b, e := request.Show(r)
				if want, wantE := shown(r); string(b) != want || e != wantE {
					t.Errorf("Show(%s): %q, %d, not %q, %d", told(r), b, e, want, wantE)
				}
			}
		}
	}
}

func FuzzParse(f *testing.F) {
	random := rand.New(rand.NewSource(50))
	for range 30 {
		f.Add([]byte(anyRequest(random)))
	}
	f.Fuzz(func(t *testing.T, b []byte) {
		if holdsParse(t, string(b)) == api.OK {
			r, _ := request.Parse(b)
			backAgain(t, r)
		}
	})
}

func FuzzShow(f *testing.F) {
	f.Add("GET", "/b", "x=1", "a", "b", "content-length", "2", []byte("hi"))
	f.Add("PUT", "/b?", " ", "A", " b", "a", "\r\n", []byte{})
	f.Fuzz(func(t *testing.T, method, path, query, name, value, other, its string, body []byte) {
		r := request.Request{Method: method, Path: path, Query: query, Body: body, Headers: []request.Header{{Name: name, Value: value}, {Name: other, Value: its}}}
		b, e := request.Show(r)
		if want, wantE := shown(r); string(b) != want || e != wantE {
			t.Errorf("Show(%s): %q, %d, not %q, %d", told(r), b, e, want, wantE)
		}
		backAgain(t, r)
	})
}

func FuzzNumber(f *testing.F) {
	f.Add("18446744073709551615", uint64(math.MaxUint64))
	f.Fuzz(func(t *testing.T, s string, most uint64) { holdsNumber(t, s, most) })
}
