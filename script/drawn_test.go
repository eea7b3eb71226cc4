package script_test

import (
	"math/rand/v2"
	"slices"
	"strings"
	"testing"

	"postroom/api"
	"postroom/script"
	"postroom/token"
)

// want: something that is to stand in a script, and how deep it would be.
type want struct {
	what  string
	depth int
}

// behindWords: what is to stand behind the word of a command or test. What begins with a small letter is one token,
// or stands for itself.
var behindWords = map[string]string{
	"keep": ";", "discard": ";", "stop": ";", "require": "LIST ;", "setflag": "LIST ;", "addflag": "LIST ;",
	"fileinto": "string ;", "redirect": "string ;", "reject": "string ;", "if": "TEST { BLOCK MORE",
	"true": "", "false": "", "not": "INNER", "allof": "( INNER TESTS", "anyof": "( INNER TESTS", "exists": "LIST", "size": "bound number",
	"header": "TAGS+m LIST LIST", "address": "TAGS+mp LIST LIST", "envelope": "TAGS+mp LIST LIST",
}

const (
	commandWords = " require if keep discard fileinto redirect reject setflag addflag stop "
	testWords    = " true false not allof anyof header address envelope exists size "
)

// byTheWords: where a script stumbles, and how: things that are to come stand on a stack, and the next token tells
// what of the topmost one it is, and what more is to come.
func byTheWords(l []api.Token) (int, api.Errno) {
	if len(l) > api.MaxTokens {
		return 0, api.ErrFull
	}
	for i, t := range l {
		if e := token.Check(t); e != api.OK {
			return i, e
		}
	}
	stack := []want{{"SCRIPT", 0}}
	for at := 0; len(stack) > 0; {
		top := stack[len(stack)-1]
		stack = stack[:len(stack)-1]
		if (top.what == "COMMAND" || top.what == "INNER") && top.depth > api.MaxNest {
			return at, api.ErrSize
		}
		var next api.Token
		if at < len(l) {
			next = l[at]
		}
		more, taken, ok := step(top, next)
		if !ok && at == len(l) {
			return at, api.ErrShort
		}
		if !ok {
			return at, api.ErrForm
		}
		slices.Reverse(more)
		stack = append(stack, more...)
		at += taken
	}
	return 0, api.OK
}

// step: what is to come for this thing, if this token is next, and how many tokens are taken.
func step(top want, next api.Token) (more []want, taken int, ok bool) {
	all := func(s string, depth, taken int) ([]want, int, bool) {
		for _, what := range strings.Fields(s) {
			more = append(more, want{what, depth})
		}
		return more, taken, true
	}
	isMark := func(s string) bool { return next == api.Token{Kind: api.Mark, Text: s} }
	isWord := func(s string) bool { return next == api.Token{Kind: api.Word, Text: s} }
	switch d := top.depth; top.what {
	case "SCRIPT":
		if next == (api.Token{}) {
			return all("", 0, 0)
		}
		return all("COMMAND SCRIPT", 0, 0)
	case "COMMAND":
		if next.Kind != api.Word || !strings.Contains(commandWords, " "+next.Text+" ") {
			return nil, 0, false
		}
		return all(behindWords[next.Text], d, 1)
	case "BLOCK":
		if isMark("}") {
			return all("", d, 1)
		}
		if next == (api.Token{}) {
			return nil, 0, false
		}
		return []want{{"COMMAND", d + 1}, {"BLOCK", d}}, 0, true
	case "MORE":
		if isWord("elsif") {
			return all("TEST { BLOCK MORE", d, 1)
		}
		if isWord("else") {
			return all("{ BLOCK", d, 1)
		}
		return all("", d, 0)
	case "TEST":
		return []want{{"INNER", 1}}, 0, true
	case "INNER":
		if next.Kind != api.Word || !strings.Contains(testWords, " "+next.Text+" ") {
			return nil, 0, false
		}
		return all(behindWords[next.Text], d+1, 1)
	case "TESTS":
		if isMark(",") {
			return all("INNER TESTS", d, 1)
		}
		return nil, 1, isMark(")")
	case "LIST":
		if isMark("[") {
			return all("string STRINGS", d, 1)
		}
		return all("string", d, 0)
	case "STRINGS":
		if isMark(",") {
			return all("string STRINGS", d, 1)
		}
		return nil, 1, isMark("]")
	case "string":
		return nil, 1, next.Kind == api.String
	case "number":
		return nil, 1, next.Kind == api.Number
	case "bound":
		return nil, 1, next.Kind == api.Tag && (next.Text == "over" || next.Text == "under")
	case ";", "{", "(":
		return nil, 1, isMark(top.what)
	}
	return tags(top, next)
}

// tags that are still to come: those behind a +.
func tags(top want, next api.Token) ([]want, int, bool) {
	if next.Kind != api.Tag {
		return nil, 0, true
	}
	for kind, texts := range map[string]string{"m": " is contains matches ", "p": " all localpart domain "} {
		if strings.Contains(texts, " "+next.Text+" ") && strings.Contains(top.what[len("TAGS+"):], kind) {
			return []want{{"TAGS+" + strings.Replace(top.what[len("TAGS+"):], kind, "", 1), top.depth}}, 1, true
		}
	}
	return nil, 0, false
}

// agrees: Parse stumbles where it does by the words; what is parsed is shown as tokens that are parsed as it was.
func agrees(t *testing.T, l []api.Token) {
	t.Helper()
	place, want := byTheWords(l)
	got, at, e := script.Parse(l)
	if at != place || e != want || (e != api.OK && len(got) != 0) {
		t.Fatalf("Parse(%v) = %s, %d, %d; want %d, %d", l, brief(got), at, e, place, want)
	}
	if e == api.OK {
		returns(t, got)
	}
}

// returns: what is shown is parsed as it was, and shown again the same.
func returns(t *testing.T, l []api.Command) {
	t.Helper()
	shown, e := script.Show(l)
	if e == api.ErrFull && script.Check(l) == api.ErrFull {
		return
	}
	if again, place, f := script.Parse(shown); e != api.OK || f != api.OK || place != 0 || tell(again) != tell(l) {
		t.Fatalf("Show(%v) = %s, %d, parsed as %s, %d, %d", l, brief(shown), e, brief(again), place, f)
	}
}

// P5.1 to P5.5: all short lists of tokens.
func TestShortScripts(t *testing.T) {
	all := tokens(t, `keep require fileinto if elsif else true not allof header address exists size :is :contains :domain :over 1 "s" { } ( ) [ ] ; ,`)
	var l []api.Token
	var longer func(n int)
	longer = func(n int) {
		agrees(t, l)
		if n == 0 {
			return
		}
		for _, x := range all {
			l = append(l, x)
			longer(n - 1)
			l = l[:len(l)-1]
		}
	}
	longer(3)
	for _, ahead := range []string{
		"if", "if true {", "if true { }", "if true { } else", "if true { } elsif true {", "if not", "if allof (", "if allof (true", "if header", "if address :is", "if address :domain", `if address "a"`, "if size",
		"require", `require ["a"`, `fileinto "a"`, strings.Repeat("if true { ", 6), strings.Repeat("if true { ", 7), "if " + strings.Repeat("not ", 5), "if " + strings.Repeat("allof (", 6),
	} {
		l = tokens(t, ahead)
		longer(3)
	}
}

// drawer of scripts, the same each time.
type drawer struct {
	*rand.Rand
}

// text that looks drawn.
func (d drawer) text() string {
	return []string{"", "a", "keep", `"`, `\`, "}", "a b", "\xff\x00"}[d.IntN(8)]
}

// list that looks drawn: its texts and tokens.
func (d drawer) list() ([]string, []api.Token) {
	l := []string{d.text()}
	for d.IntN(3) == 0 {
		l = append(l, d.text())
	}
	if len(l) == 1 && d.IntN(2) == 0 {
		return l, []api.Token{{Kind: api.String, Text: l[0]}}
	}
	out := []api.Token{{Kind: api.Mark, Text: "["}}
	for i, s := range l {
		if i > 0 {
			out = append(out, api.Token{Kind: api.Mark, Text: ","})
		}
		out = append(out, api.Token{Kind: api.String, Text: s})
	}
	return l, append(out, api.Token{Kind: api.Mark, Text: "]"})
}

// words as tokens: a mark, a tag or a word.
func words(l ...string) []api.Token {
	var out []api.Token
	for _, s := range l {
		switch {
		case strings.Contains("{}()[];,", s):
			out = append(out, api.Token{Kind: api.Mark, Text: s})
		case s[0] == ':':
			out = append(out, api.Token{Kind: api.Tag, Text: s[1:]})
		default:
			out = append(out, api.Token{Kind: api.Word, Text: s})
		}
	}
	return out
}

// test that looks drawn, and its tokens.
func (d drawer) test(depth int) (api.Test, []api.Token) {
	kind := 1 + d.IntN(10)
	if depth >= api.MaxNest && api.Not <= kind && kind <= api.AnyOf {
		kind = api.Size
	}
	x := api.Test{Kind: kind}
	l := words(strings.Fields(testWords)[kind-1])
	switch kind {
	case api.Not:
		inner, more := d.test(depth + 1)
		x.Tests, l = []api.Test{inner}, append(l, more...)
	case api.AllOf, api.AnyOf:
		l = append(l, words("(")...)
		for i := range 1 + d.IntN(3) {
			if i > 0 {
				l = append(l, words(",")...)
			}
			inner, more := d.test(depth + 1)
			x.Tests, l = append(x.Tests, inner), append(l, more...)
		}
		l = append(l, words(")")...)
	case api.Header, api.Addr, api.Envelope:
		var tags, names, keys []api.Token
		x.Match, x.Part, tags = d.tags(kind != api.Header)
		x.Names, names = d.list()
		x.Keys, keys = d.list()
		l = slices.Concat(l, tags, names, keys)
	case api.Exists:
		var names []api.Token
		x.Names, names = d.list()
		l = append(l, names...)
	case api.Size:
		x.Limit = d.IntN(api.MaxNumber + 1)
		x.Over = d.IntN(2) == 0
		tag := ":under"
		if x.Over {
			tag = ":over"
		}
		l = append(append(l, words(tag)...), api.Token{Kind: api.Number, Number: x.Limit})
	}
	return x, l
}

// tags that look drawn, in any order, and what they tell.
func (d drawer) tags(hasPart bool) (match, part int, l []api.Token) {
	match = api.Is
	if i := d.IntN(4); i > 0 {
		match, l = i, words([]string{":is", ":contains", ":matches"}[i-1])
	}
	if !hasPart {
		return match, 0, l
	}
	part = api.All
	if i := d.IntN(4); i > 0 {
		part = i
		l = append(l, words([]string{":all", ":localpart", ":domain"}[i-1])...)
	}
	if d.IntN(2) == 0 {
		slices.Reverse(l)
	}
	return match, part, l
}

// command that looks drawn, and its tokens.
func (d drawer) command(depth int) (api.Command, []api.Token) {
	kind := 1 + d.IntN(10)
	if d.IntN(3) == 0 {
		kind = api.If
	}
	c := api.Command{Kind: kind}
	l := words(strings.Fields(commandWords)[kind-1])
	switch kind {
	case api.If:
		c, more := d.branches(depth)
		return c, append(l, more...)
	case api.Require, api.SetFlag, api.AddFlag:
		var more []api.Token
		c.Texts, more = d.list()
		l = append(l, more...)
	case api.FileInto, api.Redirect, api.Reject:
		c.Texts = []string{d.text()}
		l = append(l, api.Token{Kind: api.String, Text: c.Texts[0]})
	}
	return c, append(l, words(";")...)
}

// branches that look drawn, of an If, and their tokens.
func (d drawer) branches(depth int) (api.Command, []api.Token) {
	c := api.Command{Kind: api.If}
	var l, block []api.Token
	c.Test, l = d.test(1)
	c.Then, block = d.block(depth + 1)
	l = append(l, block...)
	switch d.IntN(3) {
	case 0:
		other, more := d.branches(depth)
		c.Else = []api.Command{other}
		return c, slices.Concat(l, words("elsif"), more)
	case 1:
		c.Else, block = d.block(depth + 1)
		return c, slices.Concat(l, words("else"), block)
	}
	return c, l
}

// block that looks drawn, and its tokens.
func (d drawer) block(depth int) (out []api.Command, l []api.Token) {
	l = words("{")
	for depth <= api.MaxNest && d.IntN(5) > 1 {
		c, more := d.command(depth)
		out, l = append(out, c), append(l, more...)
	}
	return out, append(l, words("}")...)
}

// P5.1 to P5.7: drawn scripts are parsed as they were drawn; with a token more or fewer, they stumble as they must.
func TestDrawnScripts(t *testing.T) {
	d := drawer{rand.New(rand.NewPCG(5, 7))}
	deepest := 0
	all := tokens(t, `keep if elsif else true not allof header envelope exists size :is :all :under 1 "s" { } ( ) [ ] ; ,`)
	for range 8000 {
		c, l := d.command(0)
		if len(l) > api.MaxTokens {
			stumbles(t, l, 0, api.ErrFull)
			continue
		}
		got, place, e := script.Parse(l)
		if tell(got) != tell([]api.Command{c}) || place != 0 || e != api.OK {
			t.Fatalf("Parse(%v) = %v, %d, %d; want %v", l, got, place, e, c)
		}
		returns(t, got)
		deepest = max(deepest, depthOf(got))
		at := d.IntN(len(l))
		x := all[d.IntN(len(all))]
		agrees(t, l[:at])
		if _, place, e := script.Parse(l[:at]); e != api.OK && (e != api.ErrShort || place != at) {
			t.Fatalf("Parse(%v), which may go on: %d, %d", l[:at], place, e)
		}
		agrees(t, slices.Delete(slices.Clone(l), at, at+1))
		agrees(t, slices.Insert(slices.Clone(l), at, x))
		agrees(t, slices.Concat(l[:at], []api.Token{x}, l[at+1:]))
		agrees(t, slices.Insert(slices.Clone(l), at, l[d.IntN(len(l))]))
	}
	if deepest != api.MaxNest {
		t.Errorf("the deepest command was at %d", deepest)
	}
}

// depthOf the deepest command, without what is only else.
func depthOf(l []api.Command) int {
	most := 0
	for _, c := range l {
		if len(c.Then) > 0 {
			most = max(most, 1+depthOf(c.Then))
		}
	}
	return most
}
