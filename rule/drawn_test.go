package rule_test

import (
	"math/rand/v2"
	"slices"
	"strings"
	"testing"

	"postroom/api"
	"postroom/rule"
	"postroom/script"
	"postroom/token"
	"postroom/who"
)

// drawer of scripts: from few texts, so that what is right and what is wrong come about equally often.
type drawer struct{ *rand.Rand }

// one of some texts; mostly the first half.
func (d drawer) one(l ...string) string {
	if d.IntN(4) > 0 {
		l = l[:(len(l)+1)/2]
	}
	return l[d.IntN(len(l))]
}

// some texts, at least one.
func (d drawer) some(l ...string) []string {
	out := []string{d.one(l...)}
	for d.IntN(3) == 0 {
		out = append(out, d.one(l...))
	}
	return out
}

// test that is at most so deep in others.
func (d drawer) test(deep int) api.Test {
	key := []string{"k", text(100), "", text(101)}
	x := api.Test{Kind: api.True + d.IntN(api.Size)}
	switch x.Kind {
	case api.Not:
		x.Tests = []api.Test{d.test(deep - 1)}
	case api.AllOf, api.AnyOf:
		for range 1 + d.IntN(3) {
			x.Tests = append(x.Tests, d.test(deep-1))
		}
	case api.Envelope:
		x.Names, x.Part = d.some("from", "to", "From", text(101)), api.All
	case api.Header, api.Exists:
		x.Names = d.some(key...)
	case api.Addr:
		x.Names, x.Part = d.some(key...), api.Local
	}
	if x.Kind == api.Header || x.Kind == api.Addr || x.Kind == api.Envelope {
		x.Match, x.Keys = api.Is, d.some(key...)
	}
	if deep == 0 && len(x.Tests) > 0 {
		return api.Test{Kind: api.True}
	}
	return x
}

// command that is at most so deep in others.
func (d drawer) command(deep int) api.Command {
	c := api.Command{Kind: api.If + d.IntN(api.Stop-1)}
	if d.IntN(40) == 0 {
		c.Kind = api.Require
	}
	if c.Kind == api.If && deep == 0 {
		c.Kind = api.Keep
	}
	switch c.Kind {
	case api.Require:
		c.Texts = d.some("fileinto", "reject", "none")
	case api.If:
		c.Test, c.Then, c.Else = d.test(2), d.commands(deep-1), d.commands(deep-1)
	case api.FileInto:
		c.Texts = []string{d.one("a", "INBOX", text(12), "a b", "", text(13))}
	case api.Redirect:
		c.Texts = []string{d.one("a@b", "A <a@b>", "a", "a@b, c@d")}
	case api.Reject:
		c.Texts = []string{d.one("no", "")}
	case api.SetFlag, api.AddFlag:
		c.Texts = d.some(`\Seen`, `\Answered`, `\Flagged`, `\Deleted`, `\Draft`, "Seen", "")
	}
	return c
}

// commands, perhaps none.
func (d drawer) commands(deep int) []api.Command {
	var l []api.Command
	for range d.IntN(4) {
		l = append(l, d.command(deep))
	}
	return l
}

// script with what it requires.
func (d drawer) script() []api.Command {
	var l []api.Command
	for _, n := range extensions {
		if d.IntN(6) > 0 {
			l = append(l, needs(n))
		}
	}
	if d.IntN(12) == 0 {
		l = append(l, needs(d.some("reject", "none", "")...))
	}
	return append(l, d.commands(2)...)
}

// thing that is looked at by itself: a command, or a test.
type thing struct {
	c *api.Command
	x *api.Test
}

// things of commands, in the order in which they are looked at.
func things(l []api.Command) []thing {
	var out []thing
	for i := range l {
		out = append(out, thing{c: &l[i]})
		if l[i].Kind == api.If {
			out = append(out, testThings(&l[i].Test)...)
			out = append(out, things(l[i].Then)...)
			out = append(out, things(l[i].Else)...)
		}
	}
	return out
}

// testThings of a test: itself, and those in it.
func testThings(x *api.Test) []thing {
	out := []thing{{x: x}}
	for i := range x.Tests {
		out = append(out, testThings(&x.Tests[i])...)
	}
	return out
}

// wrong is an error that is told if something does not hold.
type wrong struct {
	holds bool
	e     api.Errno
}

// first of what is wrong.
func first(l []wrong) api.Errno {
	for _, w := range l {
		if !w.holds {
			return w.e
		}
	}
	return api.OK
}

// byTheWords: what chapter 6 says of a script, word by word: all that is to hold, in its order.
func byTheWords(l []api.Command) api.Errno {
	if e := script.Check(l); e != api.OK {
		return e
	}
	var all []wrong
	var have []string
	for len(l) > 0 && l[0].Kind == api.Require {
		for _, s := range l[0].Texts {
			all = append(all, wrong{slices.Contains(extensions, s), api.ErrNone})
			have = append(have, s)
		}
		l = l[1:]
	}
	for _, th := range things(l) {
		if th.c != nil {
			all = append(all, commandWords(*th.c, have)...)
		} else {
			all = append(all, testWords(*th.x, have)...)
		}
	}
	return first(all)
}

// commandWords: what is to hold of a command.
func commandWords(c api.Command, have []string) []wrong {
	has := func(s string) wrong { return wrong{slices.Contains(have, s), api.ErrRight} }
	switch c.Kind {
	case api.Require:
		return []wrong{{false, api.ErrForm}}
	case api.FileInto:
		return []wrong{has("fileinto"), {rule.Name(c.Texts[0]) == api.OK, rule.Name(c.Texts[0])}}
	case api.Reject:
		return []wrong{has("reject")}
	case api.SetFlag, api.AddFlag:
		_, e := rule.Flags(c.Texts)
		return []wrong{has("imap4flags"), {e == api.OK, e}}
	case api.Redirect:
		a, e := who.List(c.Texts[0])
		return []wrong{{e == api.OK && len(a) == 1, api.ErrForm}}
	}
	return nil
}

// testWords: what is to hold of a test itself.
func testWords(x api.Test, have []string) []wrong {
	var out []wrong
	if x.Kind == api.Envelope {
		out = append(out, wrong{slices.Contains(have, "envelope"), api.ErrRight})
		for _, n := range x.Names {
			out = append(out, wrong{n == "from" || n == "to", api.ErrNone})
		}
	}
	for _, s := range slices.Concat(x.Names, x.Keys) {
		out = append(out, wrong{len(s) <= 100, api.ErrSize})
	}
	return out
}

// Drawn scripts are checked as the chapter's words say; each error comes up.
func TestDrawn(t *testing.T) {
	d := drawer{rand.New(rand.NewPCG(6, 1))}
	count := map[api.Errno]int{}
	for range 30000 {
		l := d.script()
		want := byTheWords(l)
		checks(t, want, l...)
		count[want]++
		if t.Failed() {
			return
		}
	}
	for _, e := range []api.Errno{api.OK, api.ErrSize, api.ErrForm, api.ErrNone, api.ErrRight} {
		if count[e] < 500 {
			t.Errorf("%v came up %d times", e, count[e])
		}
	}
}

// What comes of it: a script that is allowed with some requires is allowed with more.
func TestMoreRequires(t *testing.T) {
	d := drawer{rand.New(rand.NewPCG(6, 2))}
	allowed := 0
	for range 20000 {
		l := d.script()
		if rule.Check(l) != api.OK {
			continue
		}
		allowed++
		more := append([]api.Command{needs(d.some(extensions...)...)}, l...)
		if len(shown(t, l)) > api.MaxTokens-20 {
			continue
		}
		checks(t, api.OK, more...)
	}
	if allowed < 1000 {
		t.Errorf("only %d were allowed", allowed)
	}
}

// shown: the tokens of commands that may be.
func shown(t *testing.T, l []api.Command) []api.Token {
	t.Helper()
	tokens, e := script.Show(l)
	if e != api.OK {
		t.Fatalf("Show(%v): %v", l, e)
	}
	return tokens
}

// P6.5: what is allowed is read as it was, and what is refused is refused for the same.
func TestReadDrawn(t *testing.T) {
	d := drawer{rand.New(rand.NewPCG(6, 3))}
	count := map[api.Errno]int{}
	for range 5000 {
		l := d.script()
		s, e := token.Join(shown(t, l))
		if e != api.OK {
			continue // too long as a text
		}
		want := byTheWords(l)
		reads(t, want, s)
		count[want]++
		if got, e := rule.Read(s); e == api.OK && !sameCommands(got, l) {
			t.Errorf("Read(%q): %v, want %v", s, got, l)
		}
		cut := s[:d.IntN(len(s)+1)]
		reads(t, readByTheWords(cut), cut)
	}
	for _, e := range []api.Errno{api.OK, api.ErrSize, api.ErrForm, api.ErrNone, api.ErrRight} {
		if count[e] < 50 {
			t.Errorf("%v came up %d times", e, count[e])
		}
	}
}

// readByTheWords: Cut, then Parse, then Check.
func readByTheWords(s string) api.Errno {
	tokens, _, e := token.Cut(s)
	if e != api.OK {
		return e
	}
	l, _, e := script.Parse(tokens)
	if e != api.OK {
		return e
	}
	return byTheWords(l)
}

// No text makes a call panic, or answer anything beside an error.
func TestAnyText(t *testing.T) {
	d := rand.New(rand.NewPCG(6, 4))
	pieces := []string{"require ", "if ", "keep", "fileinto ", "reject ", "setflag ", "redirect ", "envelope ", "exists ", "true", "not ", `"from"`, `"fileinto"`, `"\\Seen"`, "{", "}", ";", "[", "]", ",", "\x00", "é", "#", "/*", "7", ":is "}
	for range 20000 {
		var b strings.Builder
		for range d.IntN(12) {
			b.WriteString(pieces[d.IntN(len(pieces))])
		}
		reads(t, readByTheWords(b.String()), b.String())
	}
}
