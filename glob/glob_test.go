package glob_test

import (
	"math"
	"strings"
	"testing"

	"postroom/api"
	"postroom/glob"
)

// kinds: all that there are.
var kinds = []int{api.Is, api.Contains, api.Matches}

// fits: Match has to answer this, and no error.
func fits(t *testing.T, kind int, s, pattern string, want bool) {
	t.Helper()
	if got, e := glob.Match(kind, s, pattern); got != want || e != api.OK {
		t.Errorf("Match(%d, %.40q, %.40q) = %v, %d; want %v, 0", kind, s, pattern, got, e, want)
	}
}

// refuses: Match has to answer this error, and false.
func refuses(t *testing.T, kind int, s, pattern string, want api.Errno) {
	t.Helper()
	if got, e := glob.Match(kind, s, pattern); got || e != want {
		t.Errorf("Match(%d, %d bytes, %d bytes) = %v, %d; want false, %d", kind, len(s), len(pattern), got, e, want)
	}
}

// words: all texts of at most n bytes, each of these.
func words(letters string, n int) []string {
	all, last := []string{""}, []string{""}
	for range n {
		var next []string
		for _, w := range last {
			for i := range len(letters) {
				next = append(next, w+letters[i:i+1])
			}
		}
		all, last = append(all, next...), next
	}
	return all
}

// quoted: a text with each byte behind a backslash.
func quoted(s string) string {
	var b strings.Builder
	for i := range len(s) {
		b.WriteByte('\\')
		b.WriteByte(s[i])
	}
	return b.String()
}

// plainly: P1.3 word by word, of folded texts: slow, but easily seen to be right.
func plainly(s, pattern string) bool {
	if pattern == "" {
		return s == ""
	}
	rest := pattern[1:]
	switch c := pattern[0]; {
	case c == '*':
		return plainly(s, rest) || s != "" && plainly(s[1:], pattern)
	case c == '?':
		return s != "" && plainly(s[1:], rest)
	case c == '\\' && rest != "":
		return s != "" && s[0] == rest[0] && plainly(s[1:], rest[1:])
	default:
		return s != "" && s[0] == c && plainly(s[1:], rest)
	}
}

// P1.1: letters A to Z become small, every other byte stays.
func TestFoldEachByte(t *testing.T) {
	for i := range 256 {
		want := byte(i)
		if at := strings.IndexByte("ABCDEFGHIJKLMNOPQRSTUVWXYZ", want); at >= 0 {
			want = "abcdefghijklmnopqrstuvwxyz"[at]
		}
		in := string([]byte{'x', byte(i), 'Y'})
		if got, e := glob.Fold(in); got != string([]byte{'x', want, 'y'}) || e != api.OK {
			t.Errorf("Fold(%q) = %q, %d", in, got, e)
		}
	}
}

// P1.1: texts beyond ASCII, and ones that are no UTF-8, stay byte by byte.
func TestFoldTexts(t *testing.T) {
	for _, c := range []struct{ in, want string }{
		{"", ""},
		{"Subject: HELLO World 42", "subject: hello world 42"},
		{"ÄÖÜ Straße", "ÄÖÜ straße"},
		{"\u212a\u0130", "\u212a\u0130"}, // runes whose small forms are ASCII, or begin so
		{"A\xc9\xff\x00Z", "a\xc9\xff\x00z"},
		{"@AZ[`az{", "@az[`az{"},
	} {
		if got, e := glob.Fold(c.in); got != c.want || e != api.OK {
			t.Errorf("Fold(%q) = %q, %d; want %q", c.in, got, e, c.want)
		}
	}
}

// P1.1: MaxText bytes are taken, one more is not.
func TestFoldSize(t *testing.T) {
	most := strings.Repeat("A", api.MaxText)
	if got, e := glob.Fold(most); got != strings.Repeat("a", api.MaxText) || e != api.OK {
		t.Errorf("Fold of MaxText bytes: %d bytes, %d", len(got), e)
	}
	for _, n := range []int{1, api.MaxText, 1 << 20} {
		if got, e := glob.Fold(most + strings.Repeat("A", n)); got != "" || e != api.ErrSize {
			t.Errorf("Fold of %d bytes too many: %d bytes, %d", n, len(got), e)
		}
	}
}

// P1.2: the same text, great and small letters being the same.
func TestIs(t *testing.T) {
	fits(t, api.Is, "", "", true)
	fits(t, api.Is, "Hello", "hELLO", true)
	fits(t, api.Is, "hello", "hell", false)
	fits(t, api.Is, "hell", "hello", false)
	fits(t, api.Is, "", "a", false)
	fits(t, api.Is, "a", "", false)
	fits(t, api.Is, "abc", "a*c", false)
	fits(t, api.Is, "a*C?\\", "A*c?\\", true)
	fits(t, api.Is, "a", "\\a", false)
	fits(t, api.Is, "[", "{", false)
	fits(t, api.Is, "\xc9", "\xe9", false)
	fits(t, api.Is, "\xc3\x84", "\xc3\xa4", false)
	fits(t, api.Is, "k", "\u212a", false)
}

// P1.2: the pattern somewhere in the text, great and small letters being the same.
func TestContains(t *testing.T) {
	fits(t, api.Contains, "", "", true)
	fits(t, api.Contains, "abc", "", true)
	fits(t, api.Contains, "aBc", "A", true)
	fits(t, api.Contains, "aBc", "b", true)
	fits(t, api.Contains, "aBc", "bC", true)
	fits(t, api.Contains, "aBc", "AbC", true)
	fits(t, api.Contains, "aab", "ab", true)
	fits(t, api.Contains, "abc", "ac", false)
	fits(t, api.Contains, "abc", "abcd", false)
	fits(t, api.Contains, "", "a", false)
	fits(t, api.Contains, "abc", "*", false)
	fits(t, api.Contains, "abc", "?", false)
	fits(t, api.Contains, "abc", "\\b", false)
	fits(t, api.Contains, "x*?\\y", "*?\\", true)
	fits(t, api.Contains, "x\xc9y", "\xe9", false)
}

// P1.2: kinds that there are not, ahead of what is too long.
func TestNoSuchKind(t *testing.T) {
	long := strings.Repeat("a", api.MaxText+1)
	for _, kind := range []int{0, -1, 4, 5, 256 + api.Is, 1<<32 + api.Is, math.MaxInt, math.MinInt} {
		refuses(t, kind, "", "", api.ErrKind)
		refuses(t, kind, "a", "a", api.ErrKind)
		refuses(t, kind, long, "a", api.ErrKind)
		refuses(t, kind, "a", long, api.ErrKind)
	}
}

// P1.2: a text of MaxText bytes and a pattern of MaxPattern ones are taken, longer ones are not, whatever the kind.
func TestMatchSizes(t *testing.T) {
	text, pattern := strings.Repeat("a", api.MaxText), strings.Repeat("A", api.MaxPattern)
	fits(t, api.Is, text, pattern, false)
	fits(t, api.Contains, text, pattern, true)
	fits(t, api.Matches, text, pattern, false)
	fits(t, api.Matches, text, pattern[1:]+"*", true)
	for _, kind := range kinds {
		fits(t, kind, pattern, pattern, true)
		refuses(t, kind, text+"a", "a", api.ErrSize)
		refuses(t, kind, text+"a", "*", api.ErrSize)
		refuses(t, kind, "a", pattern+"a", api.ErrSize)
		refuses(t, kind, pattern+"a", pattern+"a", api.ErrSize)
		refuses(t, kind, "a", strings.Repeat("*", api.MaxPattern+1), api.ErrSize)
		refuses(t, kind, text+"a", pattern+"a", api.ErrSize)
	}
}

// P1.3: a star stands for any bytes, none or many.
func TestStar(t *testing.T) {
	fits(t, api.Matches, "", "*", true)
	fits(t, api.Matches, "", "***", true)
	fits(t, api.Matches, "a\r\nb\x00\xff", "*", true)
	fits(t, api.Matches, "ABC", "a*c", true)
	fits(t, api.Matches, "ac", "a*c", true)
	fits(t, api.Matches, "abcd", "a*c", false)
	fits(t, api.Matches, "xabc", "a*c", false)
	fits(t, api.Matches, "a", "a*a", false)
	fits(t, api.Matches, "abab", "*ab", true)
	fits(t, api.Matches, "aXbXc", "a*x*c", true)
	fits(t, api.Matches, "abc", "*b*", true)
	fits(t, api.Matches, "ac", "*b*", false)
}

// P1.3: a question mark stands for one byte, not for none, and not for a rune of more.
func TestQuestionMark(t *testing.T) {
	fits(t, api.Matches, "a", "?", true)
	fits(t, api.Matches, "", "?", false)
	fits(t, api.Matches, "ab", "?", false)
	fits(t, api.Matches, "\n", "?", true)
	fits(t, api.Matches, "\xff", "?", true)
	fits(t, api.Matches, "é", "?", false)
	fits(t, api.Matches, "é", "??", true)
	fits(t, api.Matches, "ab", "?*?", true)
	fits(t, api.Matches, "a", "?*?", false)
}

// P1.3: a backslash and the byte behind it stand for that byte; at the end it stands for itself.
func TestBackslash(t *testing.T) {
	fits(t, api.Matches, "a*", "a\\*", true)
	fits(t, api.Matches, "a", "a\\*", false)
	fits(t, api.Matches, "ab", "a\\*", false)
	fits(t, api.Matches, "a\\*", "a\\*", false)
	fits(t, api.Matches, "?", "\\?", true)
	fits(t, api.Matches, "x", "\\?", false)
	fits(t, api.Matches, "n", "\\N", true)
	fits(t, api.Matches, "\n", "\\n", false)
	fits(t, api.Matches, "\\", "\\\\", true)
	fits(t, api.Matches, "\\\\", "\\\\", false)
	fits(t, api.Matches, "\\x", "\\\\?", true)
	fits(t, api.Matches, "\\", "\\", true)
	fits(t, api.Matches, "", "\\", false)
	fits(t, api.Matches, "a\\", "a\\", true)
	fits(t, api.Matches, "a", "a\\", false)
	fits(t, api.Matches, "\\\\", "\\\\\\", true)
	fits(t, api.Matches, "*\\", "\\*\\", true)
	fits(t, api.Matches, "x\\", "*\\", true)
}

// P1.3: every other byte stands for itself, and nothing else may be there.
func TestOtherBytes(t *testing.T) {
	fits(t, api.Matches, "", "", true)
	fits(t, api.Matches, "a", "", false)
	fits(t, api.Matches, "", "a", false)
	fits(t, api.Matches, "aBc", "AbC", true)
	fits(t, api.Matches, "abc", "ab", false)
	fits(t, api.Matches, "ab", "abc", false)
	fits(t, api.Matches, "b", "[a-c]", false)
	fits(t, api.Matches, "[A-C].+", "[a-c].+", true)
	for i := range 256 {
		for j := range 256 {
			if c := byte(i); c != '*' && c != '?' {
				a, _ := glob.Fold(string([]byte{c}))
				b, _ := glob.Fold(string([]byte{byte(j)}))
				fits(t, api.Matches, string([]byte{byte(j)}), string([]byte{c}), a == b)
			}
		}
	}
}

// P1.3: all short texts with all short patterns.
func TestMatchesPlainly(t *testing.T) {
	texts, patterns := words("aB*\\", 4), words("Ab*?\\", 5)
	for _, s := range texts {
		for _, p := range patterns {
			fits(t, api.Matches, s, p, plainly(strings.ToLower(s), strings.ToLower(p)))
		}
	}
}

// P1.3, what comes of it: a text matches a star, and itself with each byte behind a backslash.
func TestTextMatchesItself(t *testing.T) {
	for _, s := range words("aZ*?\\\n\xff", 4) {
		fits(t, api.Matches, s, "*", true)
		fits(t, api.Matches, s, quoted(s), true)
		fits(t, api.Matches, s+"x", quoted(s), false)
		fits(t, api.Matches, "x"+s, quoted(s), false)
	}
}

// P1.3: many stars on a long text: each call ends, and soon.
func TestManyStars(t *testing.T) {
	text := strings.Repeat("a", api.MaxText)
	half := api.MaxPattern / 2
	fits(t, api.Matches, text, strings.Repeat("a*", half), true)
	fits(t, api.Matches, text, strings.Repeat("*a", half), true)
	fits(t, api.Matches, text, strings.Repeat("*?", half), true)
	fits(t, api.Matches, text, strings.Repeat("*a", half-1)+"*b", false)
	fits(t, api.Matches, text[1:]+"b", strings.Repeat("*a", half-1)+"*b", true)
	fits(t, api.Matches, text, "b"+strings.Repeat("*", api.MaxPattern-1), false)
	fits(t, api.Matches, text, strings.Repeat("*", api.MaxPattern), true)
	fits(t, api.Matches, strings.Repeat("a", half-1), strings.Repeat("*?", half), false)
}
