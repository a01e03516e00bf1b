package policy_test

import (
	"fmt"
	"math"
	"math/rand"
	"regexp"
	"slices"
	"strings"
	"testing"

	"stele/api"
	"stele/policy"
)

// What the document's words say, by the library's means.

const (
	word = `[!-:<-~]{1,64}`
	rule = `(allow|deny) (` + word + `) (` + word + `) (` + word + `)`
)

var (
	oneWord  = regexp.MustCompile(`\A` + word + `\z`)
	oneRule  = regexp.MustCompile(rule)
	allRules = regexp.MustCompile(`\A(` + rule + `(;` + rule + `)*)?\z`)
)

// rulesOf: Parse, as the words say.
func rulesOf(s string) ([]policy.Rule, api.Errno) {
	if len(s) > 160 || !allRules.MatchString(s) {
		return nil, api.ErrPolicy
	}
	var out []policy.Rule
	for _, m := range oneRule.FindAllStringSubmatch(s, -1) {
		out = append(out, policy.Rule{Deny: m[1] == "deny", Who: m[2], Action: m[3], Resource: m[4]})
	}
	return out, api.OK
}

// textOf: Show, as the words say.
func textOf(l []policy.Rule) (string, api.Errno) {
	var texts []string
	for _, r := range l {
		for _, w := range []string{r.Who, r.Action, r.Resource} {
			if !oneWord.MatchString(w) {
				return "", api.ErrPolicy
			}
		}
		texts = append(texts, fmt.Sprintf("%s %s %s %s", map[bool]string{false: "allow", true: "deny"}[r.Deny], r.Who, r.Action, r.Resource))
	}
	s := strings.Join(texts, ";")
	if len(s) > 160 {
		return "", api.ErrPolicy
	}
	return s, api.OK
}

// runes: each byte as the rune of its number, since an expression goes by runes.
func runes(s string) string {
	var out []rune
	for _, c := range []byte(s) {
		out = append(out, rune(c))
	}
	return string(out)
}

// matches: Match, as the words say.
func matches(pattern, s string) bool {
	e := regexp.QuoteMeta(runes(pattern))
	e = strings.ReplaceAll(strings.ReplaceAll(e, `\*`, `.*`), `\?`, `.`)
	return regexp.MustCompile(`(?s)\A` + e + `\z`).MatchString(runes(s))
}

// decided: Decide, as the words say.
func decided(l []policy.Rule, who, action, resource string) int {
	one := func(deny bool) bool {
		return slices.ContainsFunc(l, func(r policy.Rule) bool {
			return r.Deny == deny && matches(r.Who, who) && matches(r.Action, action) && matches(r.Resource, resource)
		})
	}
	if one(true) {
		return 2
	}
	if one(false) {
		return 1
	}
	return 0
}

// Each call, held against the words.

func holdsParse(t *testing.T, s string) api.Errno {
	t.Helper()
	got, e := policy.Parse(s)
	want, wantE := rulesOf(s)
	if !slices.Equal(got, want) || e != wantE {
		t.Fatalf("Parse(%q): %#v, %d, not %#v, %d", s, got, e, want, wantE)
	}
	if e == api.OK {
		if back, e := policy.Show(got); back != s || e != api.OK {
			t.Fatalf("Show of Parse(%q): %q, %d", s, back, e)
		}
	}
	return e
}

func holdsShow(t *testing.T, l []policy.Rule) api.Errno {
	t.Helper()
	got, e := policy.Show(l)
	want, wantE := textOf(l)
	if got != want || e != wantE {
		t.Fatalf("Show(%#v): %q, %d, not %q, %d", l, got, e, want, wantE)
	}
	if e == api.OK {
		if back, e := policy.Parse(got); !slices.Equal(back, l) || e != api.OK {
			t.Fatalf("Parse of Show(%#v): %#v, %d", l, back, e)
		}
	}
	return e
}

func holdsMatch(t *testing.T, pattern, s string) bool {
	t.Helper()
	got, want := policy.Match(pattern, s), matches(pattern, s)
	if got != want {
		t.Fatalf("Match(%q, %q): %v, not %v", pattern, s, got, want)
	}
	return got
}

// holdsDecide: and May, of root and of another one.
func holdsDecide(t *testing.T, l []policy.Rule, who, action, resource string) int {
	t.Helper()
	got, want := policy.Decide(l, who, action, resource), decided(l, who, action, resource)
	if got != want {
		t.Fatalf("Decide(%#v, %q, %q, %q): %d, not %d", l, who, action, resource, got, want)
	}
	if policy.May(l, true, who, action, resource) != (want != 2) || policy.May(l, false, who, action, resource) != (want == 1) {
		t.Fatalf("May(%#v, .., %q, %q, %q), where it is %d", l, who, action, resource, want)
	}
	return got
}

// Things that tests are made of.

func allow(who, action, resource string) policy.Rule {
	return policy.Rule{Who: who, Action: action, Resource: resource}
}

func deny(who, action, resource string) policy.Rule {
	return policy.Rule{Deny: true, Who: who, Action: action, Resource: resource}
}

// read: the rules of a text that is a policy's.
func read(t *testing.T, s string) []policy.Rule {
	t.Helper()
	l, e := policy.Parse(s)
	if e != api.OK {
		t.Fatalf("Parse(%q): %d", s, e)
	}
	return l
}

// ofLength: a policy's text of n bytes, by words of resources.
func ofLength(n int) string {
	const first = "allow a b "
	out := first
	for n-len(out) > 64 {
		out += strings.Repeat("c", 64-len(first)-1) + ";" + first
	}
	return out + strings.Repeat("d", n-len(out))
}

// texts: all of at most n signs of an alphabet.
func texts(alphabet string, n int) []string {
	out := []string{""}
	from := 0
	for range n {
		to := len(out)
		for _, s := range out[from:to] {
			for i := range len(alphabet) {
				out = append(out, s+alphabet[i:i+1])
			}
		}
		from = to
	}
	return out
}

// orders: all orders of l.
func orders(l []policy.Rule) [][]policy.Rule {
	if len(l) == 0 {
		return [][]policy.Rule{nil}
	}
	var out [][]policy.Rule
	for i := range l {
		rest := slices.Delete(slices.Clone(l), i, i+1)
		for _, o := range orders(rest) {
			out = append(out, append([]policy.Rule{l[i]}, o...))
		}
	}
	return out
}

func TestConstants(t *testing.T) {
	if policy.None != 0 || policy.Allow != 1 || policy.Deny != 2 {
		t.Errorf("None %d, Allow %d, Deny %d", policy.None, policy.Allow, policy.Deny)
	}
}

// P801

func TestAction(t *testing.T) {
	for kind, want := range map[int]string{
		0: "bypass", api.OpMakeBucket: "make-bucket", api.OpDropBucket: "drop-bucket", api.OpVersioning: "versioning", api.OpDefault: "default",
		api.OpPolicy: "policy", api.OpLifecycle: "lifecycle", api.OpPut: "put", api.OpGet: "get", api.OpDelete: "delete", api.OpRetain: "retain",
		api.OpHold: "hold", api.OpList: "list", api.OpBegin: "begin", api.OpPart: "part", api.OpComplete: "complete", api.OpAbort: "abort",
		api.OpSweep: "sweep", api.OpListBuckets: "list-buckets", api.OpAudit: "audit",
	} {
		if got := policy.Action(kind); got != want {
			t.Errorf("Action(%d): %q, not %q", kind, got, want)
		}
	}
}

// The kinds by their numbers, in the order of the words.
func TestActionsInOrder(t *testing.T) {
	var got []string
	for kind := range 20 {
		got = append(got, policy.Action(kind))
	}
	want := "bypass make-bucket drop-bucket versioning default policy lifecycle put get delete retain hold list begin part complete abort sweep list-buckets audit"
	if strings.Join(got, " ") != want {
		t.Errorf("%q", got)
	}
}

func TestActionOfNoKind(t *testing.T) {
	for _, kind := range []int{-1, -2, -7, -19, -20, 20, 21, 256, 263, 1 << 32, 1<<32 + 7, math.MaxInt32, math.MaxInt, math.MinInt32, math.MinInt} {
		if got := policy.Action(kind); got != "" {
			t.Errorf("Action(%d): %q", kind, got)
		}
	}
}

// An action is a word: a rule may name it.
func TestActionsAreWords(t *testing.T) {
	for kind := range 20 {
		l := []policy.Rule{allow("ann", policy.Action(kind), "*")}
		if holdsShow(t, l) != api.OK {
			t.Errorf("%q is no word", policy.Action(kind))
		}
		for other := range 20 {
			if policy.May(l, false, "ann", policy.Action(other), "b") != (kind == other) {
				t.Errorf("%q, where %q is allowed", policy.Action(other), policy.Action(kind))
			}
		}
	}
}

func TestParse(t *testing.T) {
	for _, c := range []struct {
		s    string
		want []policy.Rule
	}{
		{"", nil},
		{"allow ann get b/*;deny * delete *", []policy.Rule{allow("ann", "get", "b/*"), deny("*", "delete", "*")}},
		{"deny * delete *;allow ann get b/*", []policy.Rule{deny("*", "delete", "*"), allow("ann", "get", "b/*")}},
		{"allow a b c", []policy.Rule{allow("a", "b", "c")}},
		{"deny a b c", []policy.Rule{deny("a", "b", "c")}},
		{"deny a b c;deny a b c", []policy.Rule{deny("a", "b", "c"), deny("a", "b", "c")}},
		{"allow allow allow allow;deny deny deny deny", []policy.Rule{allow("allow", "allow", "allow"), deny("deny", "deny", "deny")}},
		{"allow ! ~ :;deny < ? *", []policy.Rule{allow("!", "~", ":"), deny("<", "?", "*")}},
		{`allow "a" 'b' \c;deny %20 & =`, []policy.Rule{allow(`"a"`, `'b'`, `\c`), deny("%20", "&", "=")}},
	} {
		got, e := policy.Parse(c.s)
		if !slices.Equal(got, c.want) || e != api.OK {
			t.Errorf("Parse(%q): %#v, %d", c.s, got, e)
		}
		if s, e := policy.Show(c.want); s != c.s || e != api.OK {
			t.Errorf("Show(%#v): %q, %d", c.want, s, e)
		}
		holdsParse(t, c.s)
		holdsShow(t, c.want)
	}
	if s, e := policy.Show([]policy.Rule{}); s != "" || e != api.OK {
		t.Errorf("Show of an empty list: %q, %d", s, e)
	}
}

// Words of each length, as each of the three.
func TestWordsOfEveryLength(t *testing.T) {
	for n := range 150 {
		w := strings.Repeat("w", n)
		for _, l := range [][]policy.Rule{
			{deny(w, "b", "c")}, {deny("a", w, "c")}, {deny("a", "b", w)}, {allow(w, "b", "c")},
			{deny("a", "b", "c"), allow(w, "b", "c")}, {allow("a", "b", w), deny("a", "b", "c")},
		} {
			want := api.OK
			if n < 1 || n > 64 {
				want = api.ErrPolicy
			}
			if holdsShow(t, l) != want {
				t.Errorf("Show with a word of %d bytes is not %d", n, want)
			}
			if holdsParse(t, shown(l)) != want {
				t.Errorf("Parse with a word of %d bytes is not %d", n, want)
			}
		}
	}
	w := strings.Repeat("w", 64)
	if holdsShow(t, []policy.Rule{deny(w, w, w[:25])}) != api.OK || holdsShow(t, []policy.Rule{deny(w, w, w[:26])}) != api.ErrPolicy {
		t.Error("long words at the limit")
	}
	if holdsShow(t, []policy.Rule{allow(w, w, w[:24])}) != api.OK || holdsShow(t, []policy.Rule{allow(w, w, w[:25])}) != api.ErrPolicy {
		t.Error("long words at the limit")
	}
	if holdsShow(t, []policy.Rule{allow(w, w, w)}) != api.ErrPolicy {
		t.Error("three words of 64 bytes")
	}
}

// shown: the text of rules, words or not.
func shown(l []policy.Rule) string {
	var out []string
	for _, r := range l {
		first := "allow"
		if r.Deny {
			first = "deny"
		}
		out = append(out, first+" "+r.Who+" "+r.Action+" "+r.Resource)
	}
	return strings.Join(out, ";")
}

// Each byte in a word, at each place of it, in each of the three.
func TestWordsOfEveryByte(t *testing.T) {
	for c := range 256 {
		b := string([]byte{byte(c)})
		want := api.OK
		if c < 0x21 || c > 0x7e || b == ";" {
			want = api.ErrPolicy
		}
		for _, w := range []string{b, b + "a", "a" + b, "a" + b + "a", b + b, strings.Repeat("w", 63) + b, b + strings.Repeat("w", 63)} {
			for _, l := range [][]policy.Rule{
				{allow(w, "b", "c")}, {allow("a", w, "c")}, {allow("a", "b", w)},
				{allow("a", "b", "c"), deny(w, "b", "c")}, {deny("a", "b", w), allow("a", "b", "c")},
			} {
				if holdsShow(t, l) != want {
					t.Errorf("Show with the byte %02x is not %d", c, want)
				}
				if holdsParse(t, shown(l)) != want {
					t.Errorf("Parse with the byte %02x is not %d", c, want)
				}
			}
		}
	}
	// Runes of more bytes than one, and bytes that are none.
	for _, w := range []string{"é", "\u0080", "\u0121", "\u0161", "\u2003", "；", "\ufffd", "\U0001f600", "\xc3", "\xe2\x82", "\xf0\x9f", "\xed\xa0\x80", "\xc0\xa1", "a\xff"} {
		if holdsShow(t, []policy.Rule{allow("a", "b", w)}) != api.ErrPolicy || holdsParse(t, "allow a b "+w) != api.ErrPolicy {
			t.Errorf("%q is a word", w)
		}
	}
}

func TestTextsAroundTheLimit(t *testing.T) {
	for n := 11; n <= 400; n++ {
		s := ofLength(n)
		if strings.HasSuffix(s, " ") {
			continue
		}
		want := api.OK
		if n > api.MaxPolicy {
			want = api.ErrPolicy
		}
		if holdsParse(t, s) != want {
			t.Errorf("Parse of %d bytes is not %d", n, want)
		}
		var l []policy.Rule
		for _, m := range oneRule.FindAllStringSubmatch(s, -1) {
			l = append(l, allow(m[2], m[3], m[4]))
		}
		if holdsShow(t, l) != want {
			t.Errorf("Show of %d bytes is not %d", n, want)
		}
	}
	if len(ofLength(160)) != 160 || holdsParse(t, ofLength(160)) != api.OK || holdsParse(t, ofLength(161)) != api.ErrPolicy {
		t.Error("texts of 160 and of 161 bytes")
	}
}

// Many short rules: the text grows by each of them, and by the sign between.
func TestManyRules(t *testing.T) {
	for n := range 40 {
		for _, r := range []policy.Rule{allow("a", "b", "c"), deny("a", "b", "c")} {
			l := slices.Repeat([]policy.Rule{r}, n)
			want := api.OK
			if n > 14 || !r.Deny && n > 13 {
				want = api.ErrPolicy
			}
			if holdsShow(t, l) != want || holdsParse(t, shown(l)) != want {
				t.Errorf("%d rules %#v: not %d", n, r, want)
			}
		}
	}
	if holdsShow(t, slices.Repeat([]policy.Rule{deny("a", "b", "c")}, 100000)) != api.ErrPolicy {
		t.Error("very many rules")
	}
}

// Wrong inputs

func TestParseRefuses(t *testing.T) {
	for _, s := range []string{
		" ", ";", ";;", "  ", " ;", "; ", "allow", "deny", "allow ", "deny ", "allow;", "allow a", "allow a b", "deny a b", "allow a b ", "deny  ", "allow   ", "allow   c", "allow  b c", "allow a  c",
		" allow a b c", "allow a b c ", "allow  a b c", "allow a  b c", "allow a b  c", " deny a b c", "deny a b c ", // a blank too many
		";allow a b c", "allow a b c;", "allow a b c;;deny a b c", "allow a b c; deny a b c", "allow a b c ;deny a b c", "allow a b c;;", ";;allow a b c", "allow a b c;;;deny a b c", "; ;", // a ; too many
		"allow a;b c", "allow;a b c", "allow a b;c", "allow a b c;d", "allow a b ;", "allow ; b c", "allow a ; c",
		"allow a b c d", "deny a b c d", "allow a b c;deny a b c d", "allow a b c d;deny a b c", "allow a b c deny a b c", "allow a b c;deny a b", "allow a b;deny a b c", // a word too few or too many
		"Allow a b c", "ALLOW a b c", "Deny a b c", "allo a b c", "allows a b c", "den a b c", "denys a b c", "allowed a b c", "permit a b c", "a b c", "a b c d", "none a b c", "* a b c", "? a b c", "-deny a b c", "1 a b c", "allowdeny a b c", "denyallow a b c", // another word
		"allow a b c;Allow a b c", "allow a b c;x a b c", "x a b c;allow a b c",
		"allow\ta b c", "allow a\tb c", "allow a b\tc", "allow a b c\n", "\nallow a b c", "allow a b c;\ndeny a b c", "allow a b c\r\n", "allow a b c\x00", "\x00allow a b c", "allow\x00a b c", "\ufeffallow a b c", "allow\u00a0a b c", "allow a b c\x7f", "allow a b c\x80", "allow a b \xff", "allow é b c", "allow a,b,c", "allow a b c,deny a b c", "allow a b c|deny a b c",
	} {
		if holdsParse(t, s) != api.ErrPolicy {
			t.Errorf("%q is not refused", s)
		}
		if l, _ := policy.Parse(s); len(l) != 0 {
			t.Errorf("%q: refused, and %#v", s, l)
		}
	}
}

func TestShowRefuses(t *testing.T) {
	long := strings.Repeat("w", 65)
	for _, w := range []string{"", " ", ";", "a b", "a;b", " a", "a ", ";a", "a;", "a\n", "\t", "\x00", "\x1f", "\x20", "\x7f", "\x80", "\xff", "é", "allow a", long, long + long} {
		for _, l := range [][]policy.Rule{
			{allow(w, "b", "c")}, {allow("a", w, "c")}, {allow("a", "b", w)}, {deny(w, "b", "c")}, {deny("a", w, "c")}, {deny("a", "b", w)}, {deny(w, w, w)},
			{allow("a", "b", "c"), allow("a", "b", w)}, {allow("a", "b", w), allow("a", "b", "c")}, {deny("a", "b", "c"), allow("a", w, "c"), deny("a", "b", "c")},
		} {
			if holdsShow(t, l) != api.ErrPolicy {
				t.Errorf("%#v is not refused", l)
			}
			if s, _ := policy.Show(l); s != "" {
				t.Errorf("%#v: refused, and %q", l, s)
			}
		}
	}
	if holdsShow(t, []policy.Rule{{}}) != api.ErrPolicy || holdsShow(t, []policy.Rule{{Deny: true}}) != api.ErrPolicy {
		t.Error("a rule without words is not refused")
	}
}

// Each byte put in, turned and left out, at each place of a text.
func TestParseOfTurnedTexts(t *testing.T) {
	told := map[api.Errno]int{}
	for _, s := range []string{"", "allow a b c", "deny a b c", "allow ann get b/*;deny * delete *", "deny a b c;allow dd e ff;deny ? g *h*", ofLength(160)} {
		for i := range len(s) + 1 {
			for c := range 256 {
				told[holdsParse(t, s[:i]+string([]byte{byte(c)})+s[i:])]++
				if i < len(s) {
					told[holdsParse(t, s[:i]+string([]byte{byte(c)})+s[i+1:])]++
				}
			}
			if i < len(s) {
				told[holdsParse(t, s[:i]+s[i+1:])]++
			}
			told[holdsParse(t, s[:i])]++
			told[holdsParse(t, s[i:])]++
		}
	}
	if told[api.OK] < 1000 || told[api.ErrPolicy] < 1000 {
		t.Errorf("too few of a kind: %v", told)
	}
}

// P802

func TestMatch(t *testing.T) {
	for _, c := range []struct {
		pattern, s string
		want       bool
	}{
		{"", "", true}, {"", "a", false}, {"", "*", false}, {"a", "", false}, {"a", "a", true}, {"a", "b", false}, {"a", "aa", false}, {"aa", "a", false}, {"a", "A", false},
		{"*", "", true}, {"*", "a", true}, {"*", "abc", true}, {"*", "*", true}, {"*", "?", true}, {"*", "\n", true}, {"*", "a/b;c d", true}, {"*", "\xff\x00", true},
		{"**", "", true}, {"**", "a", true}, {"***", "", true}, {"***", "abc", true}, {"a**b", "ab", true}, {"a**b", "axxb", true}, {"a**b", "a", false}, {"**a", "ba", true}, {"a**", "ab", true},
		{"?", "", false}, {"?", "a", true}, {"?", "ab", false}, {"?", "?", true}, {"?", "*", true}, {"?", "\n", true}, {"?", "\xff", true}, {"?", "é", false}, {"??", "é", true}, {"???", "€", true},
		{"a?", "a", false}, {"a?", "ab", true}, {"a?", "abc", false}, {"?a", "a", false}, {"?a", "ba", true}, {"a?b", "ab", false}, {"a?b", "axb", true}, {"a?b", "axxb", false},
		{"*?", "", false}, {"?*", "", false}, {"*?", "a", true}, {"?*", "a", true}, {"*?", "ab", true}, {"?*", "ab", true}, {"*?*", "", false}, {"*?*", "a", true}, {"?*?", "a", false}, {"?*?", "ab", true}, {"?*?", "abc", true},
		{"a*", "a", true}, {"a*", "abc", true}, {"a*", "ba", false}, {"a*", "", false}, {"*a", "a", true}, {"*a", "cba", true}, {"*a", "ab", false}, {"*a", "", false}, {"*a*", "bab", true}, {"*a*", "bcb", false},
		{"a*b*c", "abc", true}, {"a*b*c", "axxbxc", true}, {"a*b*c", "axxbx", false}, {"a*b*c", "acb", false}, {"a*b*c", "abbcc", true}, {"a*b*c", "ac", false}, {"a*b", "axxbx", false}, {"a*b", "axxbxb", true},
		{"*ab", "aab", true}, {"*ab", "aaab", true}, {"*aab", "aaab", true}, {"*aba", "ababa", true}, {"*abab*", "aababab", true}, {"*ab*ab", "ab", false}, {"*ab*ab", "abab", true}, {"*ab*ba", "aba", false}, {"*ab*ba", "abba", true},
		{"b/*", "b/k", true}, {"b/*", "b/", true}, {"b/*", "b", false}, {"b/*", "b/k/l", true}, {"b/*", "c/b/k", false}, {"b/x*", "b/x1", true}, {"b/x*", "b/y", false}, {"g?t", "get", true}, {"g?t", "gt", false}, {"g?t", "geet", false},
		{"[a]", "a", false}, {"[a]", "[a]", true}, {`\*`, "*", false}, {`\*`, `\x`, true}, {".", "a", false}, {"a+", "aa", false}, {"^a$", "a", false}, {"(a)", "a", false}, {"%", "a", false}, {"%2A", "*", false}, {"a|b", "a", false},
		{"a*", "a*", true}, {"a*c", "a*c", true}, {"?", "??", false}, {"a", "*", false}, {"a", "?", false}, {"ab", "a*", false}, {"*b", "*", false}, {"é", "é", true}, {"é", "\xc3", false}, {"\xc3", "\xc3", true}, {"\xff", "\xfe", false}, {"\xff", "\ufffd", false}, {"*\xa9", "é", true},
	} {
		if holdsMatch(t, c.pattern, c.s) != c.want {
			t.Errorf("Match(%q, %q) is not %v", c.pattern, c.s, c.want)
		}
	}
}

// All short patterns against all short texts.
func TestMatchOfAllThatAreShort(t *testing.T) {
	patterns, all := texts("ab*?", 5), texts("ab", 6)
	var yes, no int
	for _, p := range patterns {
		e := regexp.MustCompile(`\A` + strings.NewReplacer("*", ".*", "?", ".").Replace(p) + `\z`)
		for _, s := range all {
			want := e.MatchString(s)
			if policy.Match(p, s) != want {
				t.Fatalf("Match(%q, %q) is not %v", p, s, want)
			}
			if want {
				yes++
			} else {
				no++
			}
		}
	}
	if yes < 10000 || no < 10000 {
		t.Errorf("%d match, %d do not", yes, no)
	}
}

// Signs of patterns in the text are bytes like others.
func TestMatchOfSignsInTheText(t *testing.T) {
	for _, p := range texts("a*?", 4) {
		for _, s := range texts("a*?", 4) {
			holdsMatch(t, p, s)
		}
	}
}

func TestMatchOfEveryByte(t *testing.T) {
	for x := range 256 {
		p := string([]byte{byte(x)})
		for y := range 256 {
			s := string([]byte{byte(y)})
			want := x == y || p == "*" || p == "?"
			if policy.Match(p, s) != want || policy.Match("a"+p, "a"+s) != want || policy.Match("*"+p, "ab"+s) != want || policy.Match(p+"*", s+"ab") != want {
				t.Fatalf("the byte %02x in a pattern, %02x in a text", x, y)
			}
		}
	}
}

// Many stars, each of which could stand for much: that takes no long time.
func TestMatchOfManyStars(t *testing.T) {
	s := strings.Repeat("a", 5000)
	for _, c := range []struct {
		pattern string
		want    bool
	}{
		{strings.Repeat("a*", 100), true},
		{strings.Repeat("a*", 100) + "b", false},
		{strings.Repeat("*a", 100) + "b", false},
		{strings.Repeat("*a", 100) + "*b*", false},
		{strings.Repeat("?*", 5000), true},
		{strings.Repeat("?*", 5001), false},
		{strings.Repeat("*?", 5001), false},
		{strings.Repeat("*", 100000), true},
		{strings.Repeat("*", 100000) + "b", false},
		{"*" + strings.Repeat("a", 5000), true},
		{"*" + strings.Repeat("a", 5001), false},
		{"*" + strings.Repeat("a", 2500) + "b*", false},
		{strings.Repeat("a", 5000) + "*", true},
	} {
		if policy.Match(c.pattern, s) != c.want {
			t.Errorf("Match(%.20q.., ..) is not %v", c.pattern, c.want)
		}
	}
	if !policy.Match(strings.Repeat("*", 1000), "") || policy.Match(strings.Repeat("*", 1000)+"?", "") {
		t.Error("many stars and the empty text")
	}
}

// P803

func TestDecide(t *testing.T) {
	for _, c := range []struct {
		rules, who, action, resource string
		want                         int
	}{
		{"", "ann", "get", "b/k", policy.None},
		{"", "", "", "", policy.None},
		{"allow ann get b/*;deny * delete *", "ann", "get", "b/k", policy.Allow},
		{"allow ann get b/*;deny * delete *", "ann", "delete", "b/k", policy.Deny},
		{"allow ann get b/*;deny * delete *", "root", "delete", "", policy.Deny},
		{"allow ann get b/*;deny * delete *", "bob", "get", "b/k", policy.None},
		{"allow ann get b/*;deny * delete *", "ann", "put", "b/k", policy.None},
		{"allow ann get b/*;deny * delete *", "ann", "get", "c/k", policy.None},
		{"allow * * *", "", "", "", policy.Allow},
		{"deny * * *", "", "", "", policy.Deny},
		{"allow * * *;deny * * *", "a", "b", "c", policy.Deny},
		{"deny * * *;allow * * *", "a", "b", "c", policy.Deny},
		{"allow a b c;deny a b c;allow a b c", "a", "b", "c", policy.Deny},
		{"deny a b c;allow a b d", "a", "b", "d", policy.Allow},
		{"deny x b c;deny a x c;deny a b x;allow a b c", "a", "b", "c", policy.Allow},
		{"allow x b c;allow a x c;allow a b x", "a", "b", "c", policy.None},
		{"deny x b c;deny a x c;deny a b x", "a", "b", "c", policy.None},
		{"allow a b c", "A", "b", "c", policy.None},
		{"allow a b c", "b", "a", "c", policy.None},
		{"allow a b c", "c", "b", "a", policy.None},
		{"allow a b c", "a", "c", "b", policy.None},
		{"allow a b c", "a", "b", "", policy.None},
		{"allow a b c", "*", "*", "*", policy.None},
		{"allow ? ?? ???", "a", "bb", "ccc", policy.Allow},
		{"allow ? ?? ???", "aa", "bb", "cc", policy.None},
		{"allow *n g*t b/?", "ann", "get", "b/k", policy.Allow},
	} {
		if got := holdsDecide(t, read(t, c.rules), c.who, c.action, c.resource); got != c.want {
			t.Errorf("Decide(%q, %q, %q, %q): %d, not %d", c.rules, c.who, c.action, c.resource, got, c.want)
		}
	}
	if holdsDecide(t, nil, "a", "b", "c") != policy.None || holdsDecide(t, []policy.Rule{}, "a", "b", "c") != policy.None {
		t.Error("no rules decide")
	}
}

func TestMay(t *testing.T) {
	for _, c := range []struct {
		rules             string
		anyone, root, all bool
	}{
		{"", false, true, false},
		{"allow ann get b/k", true, true, false},
		{"deny ann get b/k", false, false, false},
		{"allow ann get b/k;deny ann get b/k", false, false, false},
		{"deny ann get b/k;allow ann get b/k", false, false, false},
		{"allow bob get b/k", false, true, false},
		{"deny bob get b/k", false, true, false},
		{"deny bob get b/k;allow ann get b/k", true, true, false},
		{"allow * * *", true, true, true},
		{"deny * * *", false, false, false},
		{"allow * * *;deny ? * *", true, true, true},
	} {
		l := read(t, c.rules)
		if got := policy.May(l, false, "ann", "get", "b/k"); got != c.anyone {
			t.Errorf("%q: one who is not root: %v", c.rules, got)
		}
		if got := policy.May(l, true, "ann", "get", "b/k"); got != c.root {
			t.Errorf("%q: root: %v", c.rules, got)
		}
		// Root by name alone is one like others.
		if got := policy.May(l, false, "root", "get", "b/k"); got != c.all {
			t.Errorf("%q: one by the name of root: %v", c.rules, got)
		}
	}
}

// Rules that no text has: patterns of any bytes.
func TestDecideOfRulesWithoutAText(t *testing.T) {
	for _, w := range []string{"", " ", ";", "a b", "é", "\xff", "\n", strings.Repeat("w", 65), strings.Repeat("w", 5000)} {
		for _, l := range [][]policy.Rule{{allow(w, w, w)}, {deny(w, w, w)}, {allow("*", "*", w), deny(w, w+"?", w)}, {deny(w+"*", w, w), allow("*", "*", "*")}, {{}}, {{Deny: true}}} {
			for _, s := range []string{w, "", "a", w + "x"} {
				holdsDecide(t, l, s, s, s)
				holdsDecide(t, l, w, w, s)
				holdsDecide(t, l, s, w, w)
			}
		}
	}
	if policy.Decide([]policy.Rule{{}}, "", "", "") != policy.Allow || policy.Decide([]policy.Rule{{}}, "", "", "a") != policy.None {
		t.Error("a rule of empty patterns")
	}
}

// Each of the three is asked, each by its own pattern: all ways of two texts.
func TestDecideByAllThree(t *testing.T) {
	pick := func(n, i int) string { return []string{"x", "y"}[n>>i&1] }
	for rules := range 8 {
		for ask := range 8 {
			for _, d := range []bool{false, true} {
				l := []policy.Rule{{Deny: d, Who: pick(rules, 0), Action: pick(rules, 1), Resource: pick(rules, 2)}}
				want := policy.None
				if rules == ask {
					want = map[bool]int{false: policy.Allow, true: policy.Deny}[d]
				}
				if got := holdsDecide(t, l, pick(ask, 0), pick(ask, 1), pick(ask, 2)); got != want {
					t.Errorf("%#v asked %03b: %d", l, ask, got)
				}
			}
		}
	}
}

// P804

func TestInWhateverOrder(t *testing.T) {
	for _, s := range []string{
		"allow ann get b/*;deny * delete *",
		"deny a b c;allow a b c;allow * b c;deny a ? d",
		"allow a * *;allow b * *;deny * x *;deny * * y;allow * x y",
	} {
		l := read(t, s)
		for _, who := range []string{"a", "b", "ann", ""} {
			for _, action := range []string{"b", "x", "get", "delete"} {
				for _, resource := range []string{"c", "d", "y", "b/k"} {
					want := policy.Decide(l, who, action, resource)
					for _, o := range orders(l) {
						if got := holdsDecide(t, o, who, action, resource); got != want {
							t.Errorf("%#v: %d, not %d", o, got, want)
						}
					}
				}
			}
		}
	}
}

// randomRules: of short patterns, so that many of them match.
func randomRules(r *rand.Rand, most int) []policy.Rule {
	signs := []string{"a", "b", "*", "?", "a*", "*b", "?b", "a?", "ab", "**"}
	pick := func() string { return signs[r.Intn(len(signs))] }
	l := make([]policy.Rule, r.Intn(most+1))
	for i := range l {
		l[i] = policy.Rule{Deny: r.Intn(3) == 0, Who: pick(), Action: pick(), Resource: pick()}
	}
	return l
}

// randomText: of the signs, at most n of them.
func randomText(r *rand.Rand, signs string, n int) string {
	var out []byte
	for range r.Intn(n + 1) {
		out = append(out, signs[r.Intn(len(signs))])
	}
	return string(out)
}

func TestSamplesOfDecisions(t *testing.T) {
	r := rand.New(rand.NewSource(8))
	told := map[int]int{}
	for range 3000 {
		l := randomRules(r, 6)
		who, action, resource := randomText(r, "ab", 3), randomText(r, "ab", 2), randomText(r, "ab", 2)
		want := holdsDecide(t, l, who, action, resource)
		told[want]++
		other := slices.Clone(l)
		r.Shuffle(len(other), func(i, j int) { other[i], other[j] = other[j], other[i] })
		if got := policy.Decide(other, who, action, resource); got != want {
			t.Fatalf("%#v: %d; %#v: %d", l, want, other, got)
		}
		// One more rule that denies, at any place.
		no := randomRules(r, 1)
		if len(no) == 1 {
			no[0].Deny = true
			more := slices.Insert(slices.Clone(l), r.Intn(len(l)+1), no[0])
			for _, root := range []bool{false, true} {
				if policy.May(more, root, who, action, resource) && !policy.May(l, root, who, action, resource) {
					t.Fatalf("%#v allows more than %#v", more, l)
				}
			}
			if got := holdsDecide(t, more, who, action, resource); got != want && got != policy.Deny {
				t.Fatalf("%#v: %d; with one that denies: %d", l, want, got)
			}
		}
	}
	if told[policy.None] < 100 || told[policy.Allow] < 100 || told[policy.Deny] < 100 {
		t.Errorf("too few samples: %v", told)
	}
}

func TestSamplesOfTexts(t *testing.T) {
	r := rand.New(rand.NewSource(88))
	told := map[string]int{}
	for range 30000 {
		l := make([]policy.Rule, r.Intn(5))
		for i := range l {
			l[i] = policy.Rule{Deny: r.Intn(2) == 0, Who: randomText(r, "!~:<a*?", 70>>r.Intn(6)+1), Action: randomText(r, "bcd", 8), Resource: randomText(r, "e/*-_", 20)}
			for _, w := range []*string{&l[i].Who, &l[i].Action, &l[i].Resource} {
				if *w == "" && r.Intn(10) > 0 {
					*w = "x"
				}
			}
		}
		told[fmt.Sprint("Show ", int(holdsShow(t, l)))]++
		s := []byte(shown(l))
		for range r.Intn(3) * r.Intn(2) {
			if len(s) > 0 {
				s[r.Intn(len(s))] = " ;a\x7f\x20w"[r.Intn(6)]
			}
		}
		told[fmt.Sprint("Parse ", int(holdsParse(t, string(s))))]++
	}
	for _, kind := range []string{"Show 0", "Show 45", "Parse 0", "Parse 45"} {
		if told[kind] < 500 {
			t.Errorf("too few samples: %v", told)
		}
	}
}

func TestSamplesOfPatterns(t *testing.T) {
	r := rand.New(rand.NewSource(808))
	told := map[bool]int{}
	for range 20000 {
		p, s := randomText(r, "aab**?\xff", 12), randomText(r, "aab\xff\n", 16)
		told[holdsMatch(t, p, s)]++
		// A text with some of its bytes left to the pattern's signs matches it.
		fits := strings.NewReplacer("b", "?", "\n", "*").Replace(s)
		if !holdsMatch(t, fits, s) {
			t.Fatalf("Match(%q, %q)", fits, s)
		}
	}
	if told[true] < 500 || told[false] < 500 {
		t.Errorf("too few samples: %v", told)
	}
}

func FuzzParse(f *testing.F) {
	for _, s := range []string{"", "allow ann get b/*;deny * delete *", "allow a b", "deny a b c;", " ", ";"} {
		f.Add(s)
	}
	f.Fuzz(func(t *testing.T, s string) { holdsParse(t, s) })
}

func FuzzShow(f *testing.F) {
	f.Add(false, "a", "b", "c", true, "*", "?", "~")
	f.Add(true, "", " ", ";", false, "\x7f", "é", "a b")
	f.Fuzz(func(t *testing.T, d1 bool, a1, b1, c1 string, d2 bool, a2, b2, c2 string) {
		l := []policy.Rule{{Deny: d1, Who: a1, Action: b1, Resource: c1}, {Deny: d2, Who: a2, Action: b2, Resource: c2}}
		holdsShow(t, l)
		holdsShow(t, l[:1])
		holdsDecide(t, l, a1, b1, c1)
		holdsDecide(t, l, a2, b1, c2)
	})
}

func FuzzMatch(f *testing.F) {
	f.Add("a*b*c", "axxbxc")
	f.Add("*?", "")
	f.Fuzz(func(t *testing.T, pattern, s string) {
		if len(pattern) > 200 {
			t.Skip("too long for an expression")
		}
		holdsMatch(t, pattern, s)
		holdsMatch(t, "*"+s, s+s)
	})
}

// Rules 4 and 5 of the document

func TestArgumentsStayAsTheyAre(t *testing.T) {
	whole := []policy.Rule{allow("a", "*", "c"), deny("a", "b", "d"), allow("é", "", "x"), deny("spare", "spare", "spare")}
	for n := range len(whole) + 1 {
		room := slices.Clone(whole)
		for range 2 {
			holdsShow(t, room[:n])
			holdsDecide(t, room[:n], "a", "b", "c")
			holdsDecide(t, room[:n], "a", "b", "d")
		}
		if !slices.Equal(room, whole) {
			t.Errorf("a list of %d rules, or its spare room, was changed", n)
		}
	}
}

func TestAnswersAreNewMemory(t *testing.T) {
	const s = "allow ann get b/*;deny * delete *;allow a b c"
	one, two := read(t, s), read(t, s)
	one = one[:cap(one)]
	for i := range one {
		one[i] = deny("x", "y", "z")
	}
	if want, _ := rulesOf(s); !slices.Equal(two, want) {
		t.Error("what was written into an answer is seen in another")
	}
	if holdsParse(t, s) != api.OK {
		t.Error("what was written into an answer is seen")
	}
}
