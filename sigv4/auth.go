package sigv4

import (
	"strings"

	"stele/api"
)

// Auth: what a request says of its signature.
type Auth struct {
	Access, Date string
	Signed       []string
	Signature    string
}

const (
	accessMark    = algorithm + " Credential="
	namesMark     = ", SignedHeaders="
	signatureMark = ", Signature="
)

const (
	mostName      = 64
	dateSize      = 8 // of a time's text too: its first signs are its date
	signatureSize = 64
)

// ShowAuth: a as a text.
func ShowAuth(a Auth) string {
	return accessMark + a.Access + "/" + scope(a.Date) +
		namesMark + strings.Join(a.Signed, ";") + signatureMark + a.Signature
}

// ReadAuth: the right Auth whose ShowAuth is s; ErrAuth, if none has it.
func ReadAuth(s string) (Auth, api.Errno) {
	left := s
	upTo := func(mark string) string {
		part, behind, _ := strings.Cut(left, mark)
		left = behind
		return part
	}
	var a Auth
	upTo(accessMark)
	a.Access = upTo("/")
	a.Date = upTo("/")
	upTo(namesMark)
	// One more than may be tells that there are too many: no need to part all
	// of a long text.
	a.Signed = strings.SplitN(upTo(signatureMark), ";", api.MaxHeaders+1)
	a.Signature = left
	// What was cut off without a look (the marks, the scope) is held against s
	// here: no right part has a mark in it, so a is the only one that may fit.
	if !rightAuth(a) || ShowAuth(a) != s {
		return Auth{}, api.ErrAuth
	}
	return a, api.OK
}

// rightAuth: may each part of a stand in a request?
func rightAuth(a Auth) bool {
	return madeOf(a.Access, 1, api.MaxUser, isAlphanumeric) &&
		madeOf(a.Date, dateSize, dateSize, isDigit) &&
		rightNames(a.Signed) &&
		madeOf(a.Signature, signatureSize, signatureSize, isHex)
}

// rightNames: may a signature be one over these names?
func rightNames(names []string) bool {
	if len(names) < 1 || len(names) > api.MaxHeaders {
		return false
	}
	for i, name := range names {
		if !madeOf(name, 1, mostName, inName) || i > 0 && names[i-1] >= name {
			return false
		}
	}
	return true
}

// madeOf: has s least to most bytes, each of them such a one?
func madeOf(s string, least, most int, such func(byte) bool) bool {
	if len(s) < least || len(s) > most {
		return false
	}
	for i := range len(s) {
		if !such(s[i]) {
			return false
		}
	}
	return true
}

func isDigit(b byte) bool { return '0' <= b && b <= '9' }

func isSmall(b byte) bool { return 'a' <= b && b <= 'z' }

func isAlphanumeric(b byte) bool { return isDigit(b) || isSmall(b) || 'A' <= b && b <= 'Z' }

func isHex(b byte) bool { return isDigit(b) || 'a' <= b && b <= 'f' }

func inName(b byte) bool { return isDigit(b) || isSmall(b) || b == '-' || b == '_' }
