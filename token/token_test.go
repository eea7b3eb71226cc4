package token_test

import (
	"fmt"
	"math"
	"math/big"
	"slices"
	"strings"
	"testing"

	"postroom/api"
	"postroom/token"
)

const (
	letters = "abcdefghijklmnopqrstuvwxyzABCDEFGHIJKLMNOPQRSTUVWXYZ"
	digits  = "0123456789"
	marks   = "{}()[];,"
)

// Tokens of each kind.
func word(s string) api.Token   { return api.Token{Kind: api.Word, Text: s} }
func tag(s string) api.Token    { return api.Token{Kind: api.Tag, Text: s} }
func number(n int) api.Token    { return api.Token{Kind: api.Number, Number: n} }
func quoted(s string) api.Token { return api.Token{Kind: api.String, Text: s} }
func mark(s string) api.Token   { return api.Token{Kind: api.Mark, Text: s} }

// brief: the beginning of what tokens look like; some are very long.
func brief(l ...api.Token) string {
	return fmt.Sprintf("%.80q", fmt.Sprint(l))
}

// cuts: Cut answers these tokens; and what they are joined to is cut as it was.
func cuts(t *testing.T, s string, want ...api.Token) {
	t.Helper()
	if got, place, e := token.Cut(s); !slices.Equal(got, want) || place != 0 || e != api.OK {
		t.Errorf("Cut(%.60q) = %s, %d, %d; want %s, 0, 0", s, brief(got...), place, e, brief(want...))
	}
	joined, e := token.Join(want)
	if e != api.OK {
		return // with the blanks it may be too long
	}
	if got, place, e := token.Cut(joined); !slices.Equal(got, want) || place != 0 || e != api.OK {
		t.Errorf("Cut(%.60q), which was joined, = %s, %d, %d; want %s, 0, 0", joined, brief(got...), place, e, brief(want...))
	}
}

// stumbles: Cut answers this error at this place, and no tokens.
func stumbles(t *testing.T, s string, place int, want api.Errno) {
	t.Helper()
	if got, at, e := token.Cut(s); len(got) != 0 || at != place || e != want {
		t.Errorf("Cut(%.60q) = %s, %d, %d; want nothing, %d, %d", s, brief(got...), at, e, place, want)
	}
}

// checks: Check answers this; and Join refuses a token that may not be with the same error.
func checks(t *testing.T, one api.Token, want api.Errno) {
	t.Helper()
	if e := token.Check(one); e != want {
		t.Errorf("Check(%s) = %d; want %d", brief(one), e, want)
	}
	if want == api.OK {
		return
	}
	refuses(t, want, one)
	refuses(t, want, word("a"), one, api.Token{})
}

// joins: Join answers this text, which is cut as the tokens were.
func joins(t *testing.T, want string, l ...api.Token) {
	t.Helper()
	if got, e := token.Join(l); got != want || e != api.OK {
		t.Errorf("Join(%s) = %.60q, %d; want %.60q, 0", brief(l...), got, e, want)
	}
	cuts(t, want, l...)
}

// refuses: Join answers this error, and no text.
func refuses(t *testing.T, want api.Errno, l ...api.Token) {
	t.Helper()
	if got, e := token.Join(l); got != "" || e != want {
		t.Errorf("Join(%s) = %.60q, %d; want nothing, %d", brief(l...), got, e, want)
	}
}

// repeated token, so many times.
func repeated(one api.Token, n int) []api.Token {
	return slices.Repeat([]api.Token{one}, n)
}

// P4.1: each byte alone, within a word, and behind a colon.
func TestBytes(t *testing.T) {
	for i := range 256 {
		c := string([]byte{byte(i)})
		begins := strings.Contains(letters+"_", c)
		if begins {
			cuts(t, c, word(c))
			cuts(t, ":"+c, tag(c))
			cuts(t, ":"+c+"9x", tag(c+"9x"))
		} else {
			stumbles(t, "a :"+c, 2, api.ErrForm)
			stumbles(t, ":"+c+"x", 0, api.ErrForm)
		}
		switch {
		case begins || strings.Contains(digits, c):
			cuts(t, "x"+c+"y", word("x"+c+"y"))
			cuts(t, ":x"+c+"y", tag("x"+c+"y"))
		case strings.Contains(marks, c):
			cuts(t, c, mark(c))
			cuts(t, "x"+c+"y", word("x"), mark(c), word("y"))
			cuts(t, ":x"+c+c, tag("x"), mark(c), mark(c))
		case strings.Contains(" \t\r\n", c):
			cuts(t, c)
			cuts(t, "x"+c+"y"+c, word("x"), word("y"))
			cuts(t, c+":x"+c+c+"y", tag("x"), word("y"))
		case c == "#":
			cuts(t, "x"+c+"y", word("x"))
		case c == ":":
			cuts(t, "x"+c+"y", word("x"), tag("y"))
		case c == `"`:
			stumbles(t, "x"+c+"y", 1, api.ErrShort)
		default:
			stumbles(t, c, 0, api.ErrForm)
			stumbles(t, "x "+c+"y", 2, api.ErrForm)
		}
	}
}

// P4.1: words and tags are as long as can be; tokens need nothing between them.
func TestTokens(t *testing.T) {
	cuts(t, "")
	cuts(t, "if", word("if"))
	cuts(t, "_ __ _1 a_ A1b2 IF", word("_"), word("__"), word("_1"), word("a_"), word("A1b2"), word("IF"))
	cuts(t, ":is :_ :A_9", tag("is"), tag("_"), tag("A_9"))
	cuts(t, "a:b:c", word("a"), tag("b"), tag("c"))
	cuts(t, `a"b"c`, word("a"), quoted("b"), word("c"))
	cuts(t, `""""`, quoted(""), quoted(""))
	cuts(t, `1"2"3:a`, number(1), quoted("2"), number(3), tag("a"))
	cuts(t, "1;2,3", number(1), mark(";"), number(2), mark(","), number(3))
	cuts(t, marks, mark("{"), mark("}"), mark("("), mark(")"), mark("["), mark("]"), mark(";"), mark(","))
	cuts(t, "if {keep;}", word("if"), mark("{"), word("keep"), mark(";"), mark("}"))
	long := strings.Repeat("w", api.MaxScript-1)
	cuts(t, "w"+long, word("w"+long))
	cuts(t, ":"+long, tag(long))
	for _, s := range []string{":", "::a", ": a", ":1", ":;", `:"a"`, "-1", "+1", ".b", "é", "\xff", "\x00", "'a'", `\`, "<", "*/", "/"} {
		stumbles(t, s, 0, api.ErrForm)
		stumbles(t, "a"+s, 1, api.ErrForm)
		stumbles(t, "; "+s, 2, api.ErrForm)
	}
}

// P4.2: blanks and comments between tokens, ahead of all and behind all.
func TestGaps(t *testing.T) {
	a, b := word("a"), word("b")
	for _, gap := range []string{
		" ", "\t", "\r", "\n", " \t\r\n \n", "#\n", "#c\n", "# \"c\" /* \n", "##\n#\n", "#\r\n", "/**/", "/***/", "/* * / */", "/*/ */", "/*\n*/",
		"/*#*/", "/* \" */", "/* /* */", "/**//**/", " /* c */ # d\n/* e */\t", "/*a*/#*/\n", "#/*\n", "/*\x00\xff*/", "#\x00\xff\n",
	} {
		cuts(t, gap)
		cuts(t, "a"+gap+"b", a, b)
		cuts(t, gap+"a"+gap+gap+"b"+gap, a, b)
		cuts(t, gap+"1"+gap+`"q"`+gap+":a"+gap+";"+gap, number(1), quoted("q"), tag("a"), mark(";"))
		stumbles(t, gap+"a"+gap+"@", 2*len(gap)+1, api.ErrForm)
		stumbles(t, gap+":"+gap+"a", len(gap), api.ErrForm)
		cuts(t, `"`+strings.ReplaceAll(gap, `"`, "")+`"`, quoted(strings.ReplaceAll(gap, `"`, "")))
	}
	cuts(t, "#")
	cuts(t, "a#b", a)
	cuts(t, "a # b /* \" @", a)
	cuts(t, "a#\rb", a)
	cuts(t, "a/* x */b/* y *//**/b", a, b, b)
}

// P4.2, P4.5: a comment that does not end, at its own place.
func TestGapsThatDoNotEnd(t *testing.T) {
	for _, s := range []string{"/*", "/*/", "/* a", "/* * /", "/* *", "/*\n\"*\"/", "/*#\n", "/* /*"} {
		stumbles(t, s, 0, api.ErrShort)
		stumbles(t, " \n"+s, 2, api.ErrShort)
		stumbles(t, "a"+s, 1, api.ErrShort)
		stumbles(t, "a /* b */ "+s, 10, api.ErrShort)
		stumbles(t, "# c\n"+s, 4, api.ErrShort)
	}
	stumbles(t, "/**/ */", 5, api.ErrForm)
	stumbles(t, "a / * b", 2, api.ErrForm)
}

// P4.3: numbers and their units.
func TestNumbers(t *testing.T) {
	for _, c := range []struct {
		s    string
		want int
	}{
		{"0", 0}, {"00", 0}, {"7", 7}, {"007", 7}, {"1234567890", 1234567890}, {"0K", 0}, {"0m", 0}, {"1K", 1024}, {"1k", 1024}, {"1M", 1048576}, {"1m", 1048576},
		{"3K", 3072}, {"010k", 10240}, {"2147483647", api.MaxNumber}, {"2147483646", api.MaxNumber - 1}, {"2097151K", 2097151 * 1024}, {"2047M", 2047 * 1048576},
		{strings.Repeat("0", 1000) + "5k", 5120}, {strings.Repeat("0", api.MaxScript-10) + "2147483647", api.MaxNumber},
	} {
		cuts(t, c.s, number(c.want))
		if len(c.s) > 100 {
			continue
		}
		for _, behind := range []string{" ", ";", ":a", `"q"`, "#", "/**/", "\n"} {
			got, place, e := token.Cut(c.s + behind)
			if len(got) == 0 || got[0] != number(c.want) || place != 0 || e != api.OK {
				t.Errorf("Cut(%q) = %v, %d, %d; want %d first", c.s+behind, got, place, e, c.want)
			}
		}
	}
}

// P4.3: numbers that are not in form, and ones that are too great; the form comes first.
func TestWrongNumbers(t *testing.T) {
	for i := range 256 {
		c := string([]byte{byte(i)})
		if !strings.Contains(letters+digits+"_", c) {
			continue
		}
		if !strings.Contains(digits+"KkMm", c) {
			stumbles(t, ";1"+c, 1, api.ErrForm)
			stumbles(t, ";99999999999"+c, 1, api.ErrForm)
		}
		stumbles(t, "1K"+c, 0, api.ErrForm)
		stumbles(t, "a 1m"+c+" @", 2, api.ErrForm)
		stumbles(t, "99999999999999999999M"+c, 0, api.ErrForm)
		stumbles(t, "1x"+c, 0, api.ErrForm)
	}
	for _, s := range []string{
		"2147483648", "2147483650", "3000000000", "10000000000", "2097152K", "2097152k", "2048M", "2048m", "2147483648K", "4294967296", "4294967297",
		"9223372036854775807", "9223372036854775808", "18446744073709551616", "18446744073709551617", "17592186044416M", "17592186044417m", "18014398509481984K", "18014398509481985k",
		strings.Repeat("9", 1000), "1" + strings.Repeat("0", 1000), strings.Repeat("9", 1000) + "M",
	} {
		stumbles(t, s, 0, api.ErrRange)
		stumbles(t, "a;\n"+s+"; @", 3, api.ErrRange)
		stumbles(t, s+"_", 0, api.ErrForm)
	}
}

// P4.4: any byte in a string, as it is and behind a backslash.
func TestStringBytes(t *testing.T) {
	for i := range 256 {
		c := string([]byte{byte(i)})
		cuts(t, `"\`+c+`"`, quoted(c))
		cuts(t, `"a\`+c+`b";`, quoted("a"+c+"b"), mark(";"))
		if c != `"` && c != `\` {
			cuts(t, `"`+c+`"`, quoted(c))
			cuts(t, `"a`+c+`b"c`, quoted("a"+c+"b"), word("c"))
		}
	}
	cuts(t, `""`, quoted(""))
	cuts(t, `"\\"`, quoted(`\`))
	cuts(t, `"\\\""`, quoted(`\"`))
	cuts(t, `"\\"a"\\"`, quoted(`\`), word("a"), quoted(`\`))
	cuts(t, `"\a\n\ "`, quoted("an "))
	cuts(t, `"é # /* c */ `+"\r\n"+`"`, quoted("é # /* c */ \r\n"))
	long := strings.Repeat("q", api.MaxScript-2)
	cuts(t, `"`+long+`"`, quoted(long))
}

// P4.4: strings that do not end.
func TestStringsThatDoNotEnd(t *testing.T) {
	for _, s := range []string{`"`, `"a`, `"\`, `"\"`, `"\\\"`, `"a\`, `"a\"b\"`, "\"\n;", `"/* a */`, `"# a`, "\"a\x00"} {
		stumbles(t, s, 0, api.ErrShort)
		stumbles(t, "a\n"+s, 2, api.ErrShort)
		stumbles(t, `"b"`+s, 3, api.ErrShort)
		stumbles(t, `"a\"b" `+s, 7, api.ErrShort)
		stumbles(t, `#"`+"\n"+s, 3, api.ErrShort)
	}
}

// P4.5: the script's size comes ahead of all.
func TestCutSize(t *testing.T) {
	cuts(t, strings.Repeat(" ", api.MaxScript))
	cuts(t, strings.Repeat(" ", api.MaxScript-1)+"a", word("a"))
	cuts(t, strings.Repeat("#", api.MaxScript))
	stumbles(t, strings.Repeat("@", api.MaxScript), 0, api.ErrForm)
	stumbles(t, strings.Repeat(" ", api.MaxScript-1)+"@", api.MaxScript-1, api.ErrForm)
	stumbles(t, strings.Repeat(" ", api.MaxScript-1)+`"`, api.MaxScript-1, api.ErrShort)
	for _, c := range []string{" ", "@", "a", `"`, ";", "1", "/*", "#"} {
		stumbles(t, " "+strings.Repeat(c, api.MaxScript), 0, api.ErrSize)
		stumbles(t, strings.Repeat(c, 1<<20), 0, api.ErrSize)
	}
}

// P4.5: MaxTokens tokens are taken; one more is not, wherever it goes wrong itself.
func TestCutFull(t *testing.T) {
	full := strings.Repeat(";", api.MaxTokens)
	all := repeated(mark(";"), api.MaxTokens)
	for _, behind := range []string{"", " ", "\n", "# c", "/* c */", " /**/#"} {
		cuts(t, full+behind, all...)
	}
	cuts(t, strings.Repeat("a ", api.MaxTokens), repeated(word("a"), api.MaxTokens)...)
	for _, one := range []string{";", "a", ":a", "1", `""`, "1x", "9999999999", `"`, `"\`} {
		stumbles(t, full+one, api.MaxTokens, api.ErrFull)
		stumbles(t, full+" /* c */\n"+one+"@", api.MaxTokens+9, api.ErrFull)
	}
	stumbles(t, strings.Repeat(";", api.MaxScript), api.MaxTokens, api.ErrFull)
	// What no token begins with is no token that has others ahead of it, and a comment is none.
	for _, none := range []string{"@", ":", ":1", "/", "\x00"} {
		stumbles(t, full+none, api.MaxTokens, api.ErrForm)
		stumbles(t, full+" "+none+";", api.MaxTokens+1, api.ErrForm)
		stumbles(t, full+";"+none, api.MaxTokens, api.ErrFull)
	}
	stumbles(t, full+"/*", api.MaxTokens, api.ErrShort)
	stumbles(t, full+"; /*", api.MaxTokens, api.ErrFull)
	stumbles(t, full[1:]+`"`, api.MaxTokens-1, api.ErrShort)
	stumbles(t, full[1:]+"1x", api.MaxTokens-1, api.ErrForm)
}

// P4.5: of several things that are wrong the first one in the script is told.
func TestFirstWrong(t *testing.T) {
	wrong := []struct {
		s string
		e api.Errno
	}{{"1x", api.ErrForm}, {"2048M", api.ErrRange}, {"@", api.ErrForm}, {":", api.ErrForm}, {"/", api.ErrForm}, {`"`, api.ErrShort}, {"/*", api.ErrShort}}
	for _, a := range wrong {
		for _, b := range wrong {
			if a.s == `"` && b.s == `"` {
				continue // together they are a string
			}
			stumbles(t, `keep "a"; `+a.s+" "+b.s, 10, a.e)
			stumbles(t, a.s+"\n"+b.s, 0, a.e)
		}
	}
}

// P4.6: there is no such kind, whatever else is wrong.
func TestCheckKinds(t *testing.T) {
	for _, kind := range []int{0, 6, 7, -1, -3, 1 << 40, math.MinInt, math.MaxInt} {
		checks(t, api.Token{Kind: kind}, api.ErrKind)
		checks(t, api.Token{Kind: kind, Text: "a"}, api.ErrKind)
		checks(t, api.Token{Kind: kind, Text: "@", Number: -1}, api.ErrKind)
	}
}

// P4.6: numbers; their bounds come ahead of a text that they have.
func TestCheckNumbers(t *testing.T) {
	for _, n := range []int{0, 1, 1024, api.MaxNumber - 1, api.MaxNumber} {
		checks(t, number(n), api.OK)
		for _, s := range []string{"1", "a", " ", "\x00"} {
			checks(t, api.Token{Kind: api.Number, Number: n, Text: s}, api.ErrForm)
		}
	}
	for _, n := range []int{-1, api.MaxNumber + 1, 1 << 32, math.MinInt, math.MaxInt} {
		checks(t, number(n), api.ErrRange)
		checks(t, api.Token{Kind: api.Number, Number: n, Text: "a"}, api.ErrRange)
	}
}

// P4.6: texts of the other kinds, and numbers that they may not have.
func TestCheckTexts(t *testing.T) {
	wordsToo := []string{"a", "_", "if", "a9", "_9", "Z_z0", strings.Repeat("w", 1<<16)}
	others := []string{"", "9", "9a", "a b", " a", "a ", ":a", "a:", "a-b", "é", "a\xff", "a\n", `"a"`, "{}", ";;", "{ ", "@", "#", ":", `"`, "\x00", ".", "a;"}
	form := func(ok bool) api.Errno {
		if ok {
			return api.OK
		}
		return api.ErrForm
	}
	for _, s := range append(append(wordsToo, others...), strings.Split(marks, "")...) {
		isWord := slices.Contains(wordsToo, s)
		isMark := len(s) == 1 && strings.Contains(marks, s)
		checks(t, word(s), form(isWord))
		checks(t, tag(s), form(isWord))
		checks(t, mark(s), form(isMark))
		checks(t, quoted(s), api.OK)
		for _, n := range []int{1, -1, math.MinInt, math.MaxInt} {
			for _, kind := range []int{api.Word, api.Tag, api.String, api.Mark} {
				checks(t, api.Token{Kind: kind, Text: s, Number: n}, api.ErrForm)
			}
		}
	}
	for i := range 256 {
		c := string([]byte{byte(i)})
		checks(t, word(c), form(strings.Contains(letters+"_", c)))
		checks(t, tag("x"+c), form(strings.Contains(letters+digits+"_", c)))
		checks(t, word("x"+c+"x"), form(strings.Contains(letters+digits+"_", c)))
		checks(t, mark(c), form(strings.Contains(marks, c)))
		checks(t, quoted(c), api.OK)
	}
}

// P4.7: the text of each kind, and a blank behind each token.
func TestJoin(t *testing.T) {
	joins(t, "")
	joins(t, "a ", word("a"))
	joins(t, ":is ", tag("is"))
	joins(t, "0 ", number(0))
	joins(t, "1024 1048576 2147483647 ", number(1024), number(1048576), number(api.MaxNumber))
	joins(t, `"" `, quoted(""))
	joins(t, `"a b" `, quoted("a b"))
	joins(t, `"\"" "\\" "\\\"" "\\\\" `, quoted(`"`), quoted(`\`), quoted(`\"`), quoted(`\\`))
	joins(t, "\"\r\n\t\x00\xffé'\" ", quoted("\r\n\t\x00\xffé'"))
	joins(t, "{ } ( ) [ ] ; , ", mark("{"), mark("}"), mark("("), mark(")"), mark("["), mark("]"), mark(";"), mark(","))
	joins(t, `if header :is "a" { keep ; } `, word("if"), word("header"), tag("is"), quoted("a"), mark("{"), word("keep"), mark(";"), mark("}"))
	for i := range 256 {
		c := string([]byte{byte(i)})
		behind := ""
		if c == `"` || c == `\` {
			behind = `\`
		}
		joins(t, `"x`+behind+c+`y" `, quoted("x"+c+"y"))
	}
}

// P4.7: more than MaxTokens, ahead of all that is wrong with them.
func TestJoinFull(t *testing.T) {
	joins(t, strings.Repeat("; ", api.MaxTokens), repeated(mark(";"), api.MaxTokens)...)
	for _, one := range []api.Token{mark(";"), {}, {Kind: api.Number, Number: -1}, word(""), quoted(strings.Repeat("q", 100))} {
		refuses(t, api.ErrFull, repeated(one, api.MaxTokens+1)...)
		refuses(t, api.ErrFull, repeated(one, 1<<17)...)
	}
	refuses(t, api.ErrKind, append(repeated(mark(";"), api.MaxTokens-1), api.Token{})...)
}

// P4.7: MaxScript bytes, with the last blank, of each kind; one more is too many.
func TestJoinSize(t *testing.T) {
	long := strings.Repeat("w", api.MaxScript)
	joins(t, long[1:]+" ", word(long[1:]))
	refuses(t, api.ErrSize, word(long))
	joins(t, ":"+long[2:]+" ", tag(long[2:]))
	refuses(t, api.ErrSize, tag(long[1:]))
	joins(t, `"`+long[3:]+`" `, quoted(long[3:]))
	refuses(t, api.ErrSize, quoted(long[2:]))
	for _, c := range []string{`"`, `\`} {
		joins(t, `"w`+strings.Repeat(`\`+c, api.MaxScript/2-2)+`" `, quoted("w"+strings.Repeat(c, api.MaxScript/2-2)))
		refuses(t, api.ErrSize, quoted("ww"+strings.Repeat(c, api.MaxScript/2-2)))
		refuses(t, api.ErrSize, quoted(strings.Repeat(c, api.MaxScript)))
	}
	joins(t, long[3:]+" ; ", word(long[3:]), mark(";"))
	refuses(t, api.ErrSize, word(long[2:]), mark(";"))
	joins(t, long[:api.MaxScript-12]+" 1234567890 ", word(long[:api.MaxScript-12]), number(1234567890))
	refuses(t, api.ErrSize, word(long[:api.MaxScript-11]), number(1234567890))
	refuses(t, api.ErrSize, repeated(word("wwwww"), api.MaxTokens)...)
	refuses(t, api.ErrSize, quoted(strings.Repeat("q", 1<<24)))
	joins(t, strings.Repeat("wwww ", api.MaxTokens), repeated(word("wwww"), api.MaxTokens)...)
}

// P4.7: token by token: what comes first tells the error; of one token what Check refuses comes first.
func TestJoinOrder(t *testing.T) {
	long := word(strings.Repeat("w", api.MaxScript))
	refuses(t, api.ErrSize, long, api.Token{})
	refuses(t, api.ErrKind, api.Token{}, long)
	refuses(t, api.ErrForm, word("9"), api.Token{})
	refuses(t, api.ErrRange, number(-1), word("9"))
	refuses(t, api.ErrSize, word("a"), long, number(-1))
	refuses(t, api.ErrForm, api.Token{Kind: api.Word, Text: long.Text, Number: 1})
	refuses(t, api.ErrForm, word(long.Text+"@"))
	refuses(t, api.ErrKind, api.Token{Text: long.Text})
	refuses(t, api.ErrForm, word(long.Text[1:]), mark("@"))
	refuses(t, api.ErrForm, mark(long.Text))
	refuses(t, api.ErrRange, api.Token{Kind: api.Number, Number: -1, Text: long.Text})
}

// What holds everywhere: a list that is handed in, and its spare room, stay; what comes out is new memory.
func TestListsAreNotShared(t *testing.T) {
	room := repeated(word("spare"), 9)
	l := append(room[:0], word("a"), quoted(`"`))
	before := slices.Clone(room)
	token.Join(l)
	if !slices.Equal(room, before) {
		t.Errorf("Join changed what it was given: %v; want %v", room, before)
	}
	one, _, _ := token.Cut("a b c")
	two, _, _ := token.Cut("a b c")
	one = append(one, word("x"))
	one[0] = word("y")
	two = append(two, word("z"))
	if two[0] != word("a") || one[3] != word("x") {
		t.Errorf("two answers of Cut share memory: %v, %v", one, two)
	}
}

// longest beginning of a text that is as asked; 0, if none is.
func longest(s string, fits func(string) bool) int {
	for n := len(s); n > 0; n-- {
		if fits(s[:n]) {
			return n
		}
	}
	return 0
}

// isWord by the words of P4.1.
func isWord(s string) bool {
	return s != "" && strings.Trim(s, letters+digits+"_") == "" && !strings.Contains(digits, s[:1])
}

// isGap: one thing of P4.2, whole.
func isGap(s string) bool {
	line := strings.HasPrefix(s, "#") && !strings.Contains(s, "\n")
	within := strings.HasPrefix(s, "/*") && len(s) >= 4 && strings.Index(s[2:], "*/") == len(s)-4
	return len(s) == 1 && strings.Contains(" \t\r\n", s) || line || within
}

// isString: quotes with pairs of a backslash and a byte, or single bytes between.
func isString(s string) bool {
	if len(s) < 2 || s[0] != '"' || s[len(s)-1] != '"' {
		return false
	}
	for s = s[1 : len(s)-1]; s != ""; s = s[1:] {
		if s[0] == '"' {
			return false
		}
		if s[0] == '\\' {
			if s = s[1:]; s == "" {
				return false
			}
		}
	}
	return true
}

// unescaped: what is between a string's quotes, without the backslashes.
func unescaped(s string) string {
	var b strings.Builder
	for s = s[1 : len(s)-1]; s != ""; s = s[1:] {
		s = strings.TrimPrefix(s, `\`)
		b.WriteByte(s[0])
	}
	return b.String()
}

// valued: a number as P4.3 has it.
func valued(s string) (int, api.Errno) {
	plain := strings.TrimRight(s, "KkMm")
	if strings.Trim(plain, digits) != "" || len(s) > len(plain)+1 {
		return 0, api.ErrForm
	}
	n, _ := new(big.Int).SetString(plain, 10)
	switch strings.ToUpper(s[len(plain):]) {
	case "K":
		n.Lsh(n, 10)
	case "M":
		n.Lsh(n, 20)
	}
	if n.Cmp(big.NewInt(api.MaxNumber)) > 0 {
		return 0, api.ErrRange
	}
	return int(n.Int64()), api.OK
}

// byTheWords: P4.5 in another manner, of short scripts: beginnings of what is left are tried, long ones first.
func byTheWords(s string) ([]api.Token, int, api.Errno) {
	var l []api.Token
	for at := 0; at < len(s); {
		rest := s[at:]
		n := longest(rest, isGap)
		switch {
		case n > 0:
		case strings.HasPrefix(rest, "/*"):
			return nil, at, api.ErrShort
		case strings.Contains(digits, rest[:1]):
			n = longest(rest, func(s string) bool { return isWord("_" + s) })
			v, e := valued(rest[:n])
			if e != api.OK {
				return nil, at, e
			}
			l = append(l, number(v))
		case rest[0] == '"':
			if n = longest(rest, isString); n == 0 {
				return nil, at, api.ErrShort
			}
			l = append(l, quoted(unescaped(rest[:n])))
		case strings.Contains(marks, rest[:1]):
			n = 1
			l = append(l, mark(rest[:1]))
		case longest(rest, isWord) > 0:
			n = longest(rest, isWord)
			l = append(l, word(rest[:n]))
		case rest[0] == ':' && longest(rest[1:], isWord) > 0:
			n = 1 + longest(rest[1:], isWord)
			l = append(l, tag(rest[1:n]))
		default:
			return nil, at, api.ErrForm
		}
		at += n
	}
	return l, 0, api.OK
}

// P4.1 to P4.5: all short scripts of few pieces; and what is joined of their tokens is cut as it was.
func TestCutByTheWords(t *testing.T) {
	pieces := []string{"a", "1", "K", "m", "_", "2147483647", ":", `"`, `\`, ";", "#", "/", "*", "\n", " ", "@"}
	for _, ends := range [][2]string{{"", ""}, {"1", ""}, {`"`, `"`}, {"/*", "*/a"}} {
		scripts := []string{""}
		for range 5 {
			var longer []string
			for _, s := range scripts {
				for _, p := range pieces {
					longer = append(longer, s+p)
				}
				s = ends[0] + s + ends[1]
				want, place, e := byTheWords(s)
				if e != api.OK {
					stumbles(t, s, place, e)
				} else {
					cuts(t, s, want...)
				}
				if t.Failed() {
					return // one is enough
				}
			}
			scripts = longer
		}
	}
}
