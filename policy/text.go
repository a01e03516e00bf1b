package policy

import (
	"strings"

	"stele/api"
)

// maxWord: bytes of a word.
const maxWord = 64

// What rules' texts begin with.
const (
	allowing = "allow"
	denying  = "deny"
)

// Parse: the rules of a policy's text; ErrPolicy, if s is none, or has more
// than MaxPolicy bytes.
func Parse(s string) ([]Rule, api.Errno) {
	if len(s) > api.MaxPolicy {
		return nil, api.ErrPolicy
	}
	// Parted, the empty text would be one rule's text that is empty.
	if s == "" {
		return nil, api.OK
	}
	var l []Rule
	for text := range strings.SplitSeq(s, ";") {
		r, ok := parseRule(text)
		if !ok {
			return nil, api.ErrPolicy
		}
		l = append(l, r)
	}
	return l, api.OK
}

// parseRule: the rule of its text; false, if that is none.
func parseRule(text string) (Rule, bool) {
	w := strings.Split(text, " ")
	if len(w) != 4 || w[0] != allowing && w[0] != denying {
		return Rule{}, false
	}
	r := Rule{w[0] == denying, w[1], w[2], w[3]}
	return r, hasWords(r)
}

// Show: the text of the rules; ErrPolicy, if a word of theirs is none, or the
// text has more than MaxPolicy bytes.
func Show(l []Rule) (string, api.Errno) {
	var out strings.Builder
	for i, r := range l {
		if i > 0 {
			out.WriteString(";")
		}
		if !hasWords(r) {
			return "", api.ErrPolicy
		}
		out.WriteString(showRule(r))
		// Asked here, so that a long list costs no more than a short one.
		if out.Len() > api.MaxPolicy {
			return "", api.ErrPolicy
		}
	}
	return out.String(), api.OK
}

// showRule: the text of r.
func showRule(r Rule) string {
	first := allowing
	if r.Deny {
		first = denying
	}
	return strings.Join([]string{first, r.Who, r.Action, r.Resource}, " ")
}

// hasWords: are the three texts of r words?
func hasWords(r Rule) bool {
	return isWord(r.Who) && isWord(r.Action) && isWord(r.Resource)
}

// isWord: is s one that a rule may have?
func isWord(s string) bool {
	if len(s) < 1 || len(s) > maxWord {
		return false
	}
	// Bytes above 7e, whether they make runes or not, come as runes above it.
	for _, r := range s {
		if r < '!' || r > '~' || r == ';' {
			return false
		}
	}
	return true
}
