package rule_test

import (
	"slices"
	"strings"
	"testing"

	"postroom/api"
	"postroom/rule"
	"postroom/script"
	"postroom/token"
	"postroom/who"
)

// All that may be required, as a script.
const all = `require ["fileinto", "reject", "envelope", "imap4flags"]; `

// text of so many bytes.
func text(n int) string { return strings.Repeat("a", n) }

// quoted: a text as a string of a script.
func quoted(s string) string {
	return `"` + strings.NewReplacer(`\`, `\\`, `"`, `\"`).Replace(s) + `"`
}

// command of a kind, with its texts.
func command(kind int, texts ...string) api.Command {
	return api.Command{Kind: kind, Texts: texts}
}

// needs: a Require of these.
func needs(names ...string) api.Command { return command(api.Require, names...) }

// when a test holds: an If.
func when(x api.Test, l ...api.Command) api.Command {
	return api.Command{Kind: api.If, Test: x, Then: l}
}

// unless: an If whose Else has commands.
func unless(x api.Test, l ...api.Command) api.Command {
	return api.Command{Kind: api.If, Test: x, Else: l}
}

// checks that Check answers so.
func checks(t *testing.T, want api.Errno, l ...api.Command) {
	t.Helper()
	if e := rule.Check(l); e != want {
		t.Errorf("Check(%v): %v, want %v", l, e, want)
	}
}

// reads a script: it is allowed, or refused, and Check says the same of what is parsed.
func reads(t *testing.T, want api.Errno, s string) {
	t.Helper()
	l, e := rule.Read(s)
	if e != want {
		t.Errorf("Read(%q): %v, want %v", s, e, want)
	}
	if e != api.OK && len(l) > 0 {
		t.Errorf("Read(%q): %v with %v", s, l, e)
	}
	tokens, _, e := token.Cut(s)
	if e != api.OK {
		return
	}
	parsed, _, e := script.Parse(tokens)
	if e != api.OK {
		return
	}
	checks(t, want, parsed...)
	if want == api.OK && !sameCommands(l, parsed) {
		t.Errorf("Read(%q): %v, want %v", s, l, parsed)
	}
}

// sameCommands: lists without elements are the same, be they nil or not.
func sameCommands(a, b []api.Command) bool {
	return slices.EqualFunc(a, b, func(c, d api.Command) bool {
		return c.Kind == d.Kind && slices.Equal(c.Texts, d.Texts) && sameTest(c.Test, d.Test) && sameCommands(c.Then, d.Then) && sameCommands(c.Else, d.Else)
	})
}

// sameTest, too.
func sameTest(a, b api.Test) bool {
	return a.Kind == b.Kind && a.Match == b.Match && a.Part == b.Part && a.Over == b.Over && a.Limit == b.Limit &&
		slices.Equal(a.Names, b.Names) && slices.Equal(a.Keys, b.Keys) && slices.EqualFunc(a.Tests, b.Tests, sameTest)
}

// flags that are wanted of names.
func flags(t *testing.T, want int, wantE api.Errno, l ...string) {
	t.Helper()
	if f, e := rule.Flags(l); f != want || e != wantE {
		t.Errorf("Flags(%q): %d, %v, want %d, %v", l, f, e, want, wantE)
	}
}

// P6.1: each name, none of them, all together, one of them twice.
func TestFlags(t *testing.T) {
	names := []string{`\Seen`, `\Answered`, `\Flagged`, `\Deleted`, `\Draft`}
	values := []int{1, 2, 4, 8, 16}
	flags(t, 0, api.OK)
	if f, e := rule.Flags(nil); f != 0 || e != api.OK {
		t.Errorf("Flags(nil): %d, %v", f, e)
	}
	for set := range 32 {
		want := 0
		var l []string
		for i, n := range names {
			if set>>i&1 == 1 {
				l = append(l, n)
				want += values[i]
			}
		}
		flags(t, want, api.OK, l...)
		flags(t, want, api.OK, append(l, l...)...)
		slices.Reverse(l)
		flags(t, want, api.OK, l...)
		for i := range len(l) + 1 {
			flags(t, 0, api.ErrNone, slices.Insert(slices.Clone(l), i, `\Recent`)...)
		}
	}
}

// P6.1: what is no name of a flag.
func TestNoFlags(t *testing.T) {
	for _, n := range []string{`\Seen`, `\Answered`, `\Flagged`, `\Deleted`, `\Draft`} {
		bare := n[1:]
		for _, s := range []string{"", `\`, bare, strings.ToLower(n), strings.ToUpper(n), n + " ", " " + n, `\` + n, n + "\x00", n[:len(n)-1], n + "s", n + n, "/" + bare, n + "," + n} {
			flags(t, 0, api.ErrNone, s)
			flags(t, 0, api.ErrNone, n, s)
			flags(t, 0, api.ErrNone, s, n)
		}
	}
	for c := range 256 {
		flags(t, 0, api.ErrNone, string([]byte{byte(c)}))
		if c != '\\' {
			flags(t, 0, api.ErrNone, string([]byte{byte(c)})+"Seen")
		}
	}
}

// P6.2: how long a name is, and of what bytes.
func TestName(t *testing.T) {
	name := func(want api.Errno, s string) {
		t.Helper()
		if e := rule.Name(s); e != want {
			t.Errorf("Name(%q): %v, want %v", s, e, want)
		}
	}
	for n := range 40 {
		want := api.OK
		if n < 1 || n > 12 {
			want = api.ErrSize
		}
		name(want, strings.Repeat("x", n))
		bad := api.ErrForm
		if want != api.OK {
			bad = want
		}
		name(bad, strings.Repeat(" ", n))
	}
	name(api.ErrSize, strings.Repeat("x", 100000))
	for c := range 256 {
		want := api.ErrForm
		if 33 <= c && c <= 126 {
			want = api.OK
		}
		b := string([]byte{byte(c)})
		for _, s := range []string{b, "x" + b, b + "x", "INBO" + b + "X", text(11) + b, b + text(11)} {
			name(want, s)
		}
		name(api.ErrSize, text(12)+b)
		name(api.ErrSize, b+text(12))
	}
	name(api.ErrForm, "ä")
	name(api.OK, "INBOX")
	name(api.OK, "a/b.c\"\\{}")
}

// P6.5: what is refused ahead of Check, and in which order.
func TestRead(t *testing.T) {
	reads(t, api.OK, "")
	reads(t, api.OK, " # nothing")
	reads(t, api.OK, "keep;")
	reads(t, api.OK, all)
	reads(t, api.OK, all+`if allof (envelope "from" "a@b", not exists "x") { fileinto "f"; setflag ["\\Seen", "\\Draft"]; } elsif size :over 3K { reject "large"; } else { redirect "Ann <a@b>"; stop; }`)
	// Cut comes first.
	reads(t, api.ErrSize, strings.Repeat(" ", api.MaxScript+1))
	reads(t, api.OK, strings.Repeat(" ", api.MaxScript))
	reads(t, api.ErrShort, `keep keep fileinto "a`)
	reads(t, api.ErrForm, `fileinto "a"; @`)
	reads(t, api.ErrRange, `fileinto "a"; 2147483648`)
	reads(t, api.ErrFull, strings.Repeat(";", api.MaxTokens+1))
	// Then Parse.
	reads(t, api.ErrForm, `fileinto "a"; keep keep;`)
	reads(t, api.ErrShort, `fileinto "a"; keep`)
	reads(t, api.ErrShort, `require "none"; keep`)
	reads(t, api.ErrSize, `fileinto "a"; `+strings.Repeat("if true { ", api.MaxNest+1)+"keep;"+strings.Repeat("}", api.MaxNest+1))
	reads(t, api.OK, strings.Repeat("if true { ", api.MaxNest)+"keep;"+strings.Repeat("}", api.MaxNest))
	// Then Check.
	reads(t, api.ErrRight, `fileinto "a";`)
	reads(t, api.ErrNone, `require "none"; fileinto "a";`)
	reads(t, api.ErrForm, `keep; require "reject";`)
	reads(t, api.ErrForm, `redirect "a";`)
}

// P6.5: what is parsed may take too many tokens to show, which script's Check refuses.
func TestReadShownTooLong(t *testing.T) {
	short := strings.Repeat(`if header "a" "b" {}`, 66) // 396 tokens, and 462 if shown
	reads(t, api.ErrFull, short)
	reads(t, api.OK, strings.Repeat(`if header :is "a" "b" {}`, 57))
	reads(t, api.OK, strings.Repeat(`if header "a" "b" {}`, 57))
	reads(t, api.ErrFull, strings.Repeat(`if header "a" "b" {}`, 58))
	// It stands ahead of all that is rule's own.
	reads(t, api.ErrFull, `fileinto "a";`+strings.Repeat(`if header "a" "b" {}`, 58))
	reads(t, api.ErrFull, `require "none";`+strings.Repeat(`if header "a" "b" {}`, 58))
}

// P6.3: what script's Check refuses is told first, wherever it stands.
func TestCheckOfScript(t *testing.T) {
	yes := api.Test{Kind: api.True}
	for _, bad := range []struct {
		c    api.Command
		want api.Errno
	}{
		{api.Command{}, api.ErrKind},
		{api.Command{Kind: -1}, api.ErrKind},
		{api.Command{Kind: 11}, api.ErrKind},
		{api.Command{Kind: 1 << 40}, api.ErrKind},
		{command(api.Require), api.ErrForm},
		{command(api.Keep, "a"), api.ErrForm},
		{command(api.FileInto), api.ErrForm},
		{command(api.FileInto, "a", "b"), api.ErrForm},
		{command(api.Redirect), api.ErrForm},
		{command(api.SetFlag), api.ErrForm},
		{when(api.Test{Kind: 99}), api.ErrKind},
		{when(api.Test{Kind: api.Envelope}), api.ErrForm},
		{when(api.Test{Kind: api.Size, Limit: -1}), api.ErrForm},
		{when(yes, when(yes, when(yes, when(yes, when(yes, when(yes, when(yes))))))), api.OK},
		{when(yes, when(yes, when(yes, when(yes, when(yes, when(yes, when(yes, command(api.Keep)))))))), api.ErrSize},
	} {
		checks(t, bad.want, bad.c)
		if bad.want == api.OK {
			continue
		}
		checks(t, bad.want, command(api.FileInto, "a"), bad.c)
		checks(t, bad.want, needs("none"), bad.c)
		checks(t, bad.want, command(api.Keep), needs("reject"), bad.c)
		checks(t, bad.want, command(api.Redirect, "a"), bad.c)
	}
	var many []api.Command
	for range api.MaxTokens / 2 {
		many = append(many, command(api.Keep))
	}
	checks(t, api.OK, many...)
	checks(t, api.ErrFull, append(many, command(api.Keep))...)
	checks(t, api.ErrFull, append(many, command(api.FileInto, "a"))...)
}

// P6.3: any list of addresses does for a Redirect, if it has just one.
func goals() (good, bad []string) {
	good = []string{"a@b", " a@b\t", "<a@b>", "Ann <a@b>", `"A, B" C <a.b@c.d>`, "a.b+c@d.e", text(49) + "@" + text(50)}
	bad = []string{"", " ", ",", "a", "a@", "@b", "a@b,", ",a@b", "a@b c@d", "a@b, c@d", "Ann <a@b>, c@d", "<a@b", "a @b", "a..b@c", text(50) + "@" + text(50),
		"a@b" + strings.Repeat(" ", api.MaxText), strings.Repeat("a@b,", 20) + "a@b", strings.Repeat("a@b,", 25), "ä@b"}
	return good, bad
}

// P6.3: Redirect.
func TestRedirect(t *testing.T) {
	good, bad := goals()
	for _, s := range good {
		if l, e := who.List(s); e != api.OK || len(l) != 1 {
			t.Fatalf("%q is no list of one", s)
		}
		checks(t, api.OK, command(api.Redirect, s))
		checks(t, api.OK, needs("reject"), command(api.Redirect, s))
		reads(t, api.OK, "redirect "+quoted(s)+";")
	}
	for _, s := range bad {
		checks(t, api.ErrForm, command(api.Redirect, s))
		checks(t, api.ErrForm, needs("reject"), command(api.Redirect, s))
		checks(t, api.ErrForm, when(api.Test{Kind: api.False}, command(api.Redirect, s)))
	}
	checks(t, api.OK, command(api.Redirect, "a@b"+strings.Repeat(" ", api.MaxText-3)))
	checks(t, api.ErrForm, command(api.Redirect, "a@b"+strings.Repeat(" ", api.MaxText-2)))
}
