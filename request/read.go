package request

import (
	"strings"

	"stele/api"
	"stele/uri"
)

// reader: what is left of a request's text.
type reader struct{ left string }

// request: the request that is left, or why there is none.
func (r *reader) request() (q Request, e api.Errno) {
	defer func() {
		if refused := recover(); refused != nil {
			q, e = Request{}, refused.(api.Errno)
		}
	}()
	var target string
	q.Method, target = r.first()
	q.Headers = r.headers()
	// Read behind the headers, since what stands against those is told first.
	q.Path, q.Query = parted(target)
	q.Body = []byte(r.left)
	checkLength(q)
	return q, api.OK
}

// need: refuses the request by e, if ok does not hold.
func need(ok bool, e api.Errno) {
	if !ok {
		panic(e)
	}
}

// line: the next line, without its end; refused by e, if no end comes.
func (r *reader) line(e api.Errno) string {
	line, left, ok := strings.Cut(r.left, lineEnd)
	need(ok, e)
	r.left = left
	return line
}

// first: the method and the target of the first line.
func (r *reader) first() (method, target string) {
	line := r.line(api.ErrMethod)
	method, behind, _ := strings.Cut(line, " ")
	target, ok := strings.CutSuffix(behind, " "+version)
	need(ok && isMethod(method) && isTarget(target), api.ErrMethod)
	return method, target
}

// headers: those of all lines up to the empty one.
func (r *reader) headers() []Header {
	var all []Header
	for {
		h, more := r.header()
		if !more {
			return all
		}
		_, twice := Get(Request{Headers: all}, h.Name)
		need(!twice && len(all) < api.MaxHeaders, api.ErrHeader)
		all = append(all, h)
	}
}

// header: the next line's header, its name by small letters; false, if the line
// is empty.
func (r *reader) header() (Header, bool) {
	line := r.line(api.ErrHeader)
	if line == "" {
		return Header{}, false
	}
	name, behind, ok := strings.Cut(line, ":")
	value := strings.Trim(behind, " ")
	need(ok && isToken(name) && isValue(value), api.ErrHeader)
	return Header{strings.ToLower(name), value}, true
}

// parted: the path and the query of a target; refused, if uri refuses one.
func parted(target string) (path, query string) {
	path, query, _ = strings.Cut(target, "?")
	_, _, e := uri.Path(path)
	need(e == api.OK, api.ErrPath)
	_, e = uri.Query(query)
	need(e == api.OK, api.ErrPath)
	return path, query
}

// checkLength: refuses q, if its body is of another length than it says.
func checkLength(q Request) {
	text, has := Get(q, bodySize)
	if !has {
		need(len(q.Body) == 0, api.ErrLength)
		return
	}
	n, e := Number(text, api.MaxRequest)
	need(e == api.OK && n == uint64(len(q.Body)), api.ErrLength)
}
