package rule_test

import (
	"strings"
	"testing"

	"postroom/api"
	"postroom/rule"
)

// What may be required.
var extensions = []string{"fileinto", "reject", "envelope", "imap4flags"}

// without: all that may be required but one.
func without(name string) []string {
	var l []string
	for _, n := range extensions {
		if n != name {
			l = append(l, n)
		}
	}
	return l
}

// mailFrom: an Envelope.
func mailFrom(names ...string) api.Test {
	return api.Test{Kind: api.Envelope, Match: api.Is, Part: api.All, Names: names, Keys: []string{"k"}}
}

// P6.3: what may be required, alone and in lists, once and again.
func TestRequire(t *testing.T) {
	for _, n := range extensions {
		checks(t, api.OK, needs(n))
		checks(t, api.OK, needs(n, n), needs(n))
		checks(t, api.OK, needs(n), needs(extensions...), command(api.Keep))
		for _, s := range []string{"", " ", strings.ToUpper(n), n + " ", " " + n, n + "s", n[1:], n[:len(n)-1], n + "," + n, n + "\x00"} {
			checks(t, api.ErrNone, needs(s))
			checks(t, api.ErrNone, needs(n, s))
			checks(t, api.ErrNone, needs(s, n))
			checks(t, api.ErrNone, needs(n), needs(s))
			checks(t, api.ErrNone, needs(n), needs(n, s, n), command(api.Keep))
		}
	}
	for _, s := range []string{"keep", "discard", "redirect", "stop", "if", "setflag", "addflag", "header", "address", "exists", "size", "imap4", "from", "none", "FileInto", text(1000)} {
		checks(t, api.ErrNone, needs(s))
	}
	checks(t, api.OK, needs(extensions...))
}

// P6.3: all Requires that stand ahead come first, ahead of whatever is wrong behind them.
func TestRequireFirst(t *testing.T) {
	for _, bad := range []api.Command{
		command(api.FileInto, "a"), command(api.Reject, "a"), command(api.SetFlag, "a"), command(api.Redirect, "a"), when(mailFrom("from")),
		when(api.Test{Kind: api.Exists, Names: []string{text(101)}}), when(api.Test{Kind: api.True}, needs("reject")),
	} {
		checks(t, api.ErrNone, needs("none"), bad)
		checks(t, api.ErrNone, needs("envelope"), needs("none"), bad)
		checks(t, api.ErrNone, needs("none"), needs("envelope"), bad)
		checks(t, api.ErrNone, needs("none"), bad, needs("reject"))
	}
}

// P6.3: a Require behind anything else, whatever it names.
func TestLateRequire(t *testing.T) {
	yes := api.Test{Kind: api.True}
	for _, late := range append([]string{"none", ""}, extensions...) {
		r := needs(late)
		for _, c := range []api.Command{command(api.Keep), command(api.Discard), command(api.Stop), command(api.Redirect, "a@b"), when(yes)} {
			checks(t, api.ErrForm, c, r)
			checks(t, api.ErrForm, needs("fileinto"), c, r)
			checks(t, api.ErrForm, c, r, command(api.Keep))
			checks(t, api.ErrForm, c, c, r, r)
		}
		checks(t, api.ErrForm, when(yes, r))
		checks(t, api.ErrForm, unless(yes, r))
		checks(t, api.ErrForm, unless(yes, when(yes, r)))
		checks(t, api.ErrForm, unless(yes, unless(yes, r, r)))
		checks(t, api.ErrForm, when(yes, command(api.Keep), r))
		checks(t, api.ErrForm, when(yes, r, command(api.FileInto, "a")))
		checks(t, api.ErrRight, when(yes, command(api.FileInto, "a"), r))
		checks(t, api.ErrForm, needs("reject"), when(yes, when(yes, r)))
	}
	// It does not give the right either.
	checks(t, api.ErrRight, command(api.FileInto, "a"), needs("fileinto"))
	checks(t, api.ErrForm, command(api.Keep), needs("fileinto"), command(api.FileInto, "a"))
}

// needy commands and tests, in order, with what each needs.
func needy() []struct {
	name string
	c    api.Command
} {
	return []struct {
		name string
		c    api.Command
	}{
		{"fileinto", command(api.FileInto, "a")},
		{"reject", command(api.Reject, "a")},
		{"imap4flags", command(api.SetFlag, `\Seen`)},
		{"imap4flags", command(api.AddFlag, `\Seen`)},
		{"envelope", when(mailFrom("from"))},
	}
}

// P6.3, P6.4: what is needed is to be required, wherever it is used; nothing else is.
func TestRight(t *testing.T) {
	yes := api.Test{Kind: api.True}
	for _, n := range needy() {
		for _, c := range []api.Command{n.c, when(yes, n.c), unless(yes, n.c), unless(yes, command(api.Keep), n.c), when(yes, unless(yes, when(yes, command(api.Stop), n.c)))} {
			checks(t, api.ErrRight, c)
			checks(t, api.OK, needs(n.name), c)
			checks(t, api.OK, needs(extensions...), c, c)
			checks(t, api.ErrRight, needs(without(n.name)...), c)
			checks(t, api.OK, needs(without(n.name)...), needs(n.name), c)
			checks(t, api.OK, needs(n.name), needs(without(n.name)...), command(api.Keep), c)
			checks(t, api.ErrRight, command(api.Discard), c)
			checks(t, api.ErrRight, command(api.Stop), c)
		}
	}
	for _, c := range []api.Command{command(api.Keep), command(api.Discard), command(api.Stop), command(api.Redirect, "a@b"), when(yes)} {
		checks(t, api.OK, c)
	}
	for _, x := range plainTests() {
		checks(t, api.OK, when(x))
	}
}

// plainTests need nothing.
func plainTests() []api.Test {
	l, k := []string{"from", "x"}, []string{"k", ""}
	return []api.Test{
		{Kind: api.True}, {Kind: api.False}, {Kind: api.Not, Tests: []api.Test{{Kind: api.True}}}, {Kind: api.AllOf, Tests: []api.Test{{Kind: api.True}, {Kind: api.False}}},
		{Kind: api.AnyOf, Tests: []api.Test{{Kind: api.True}}}, {Kind: api.Header, Match: api.Is, Names: l, Keys: k}, {Kind: api.Addr, Match: api.Contains, Part: api.Local, Names: l, Keys: k},
		{Kind: api.Exists, Names: l}, {Kind: api.Size, Limit: 7, Over: true},
	}
}

// P6.3: ErrRight stands ahead of what Name and Flags refuse.
func TestTexts(t *testing.T) {
	for _, s := range []string{"", "a", " ", "a b", text(12), text(13), "\x7f", "!~", "ä", " " + text(13)} {
		checks(t, api.ErrRight, command(api.FileInto, s))
		checks(t, rule.Name(s), needs("fileinto"), command(api.FileInto, s))
		checks(t, rule.Name(s), needs("fileinto"), when(api.Test{Kind: api.False}, command(api.FileInto, s)))
		checks(t, api.OK, needs("reject"), command(api.Reject, s))
	}
	checks(t, api.OK, needs("reject"), command(api.Reject, text(5000)))
	for _, l := range [][]string{{`\Seen`}, {`\Draft`, `\Draft`}, {"Seen"}, {`\Seen`, ""}, {"", `\Seen`}, {`\Deleted`, `\Flagged`, `\Answered`}} {
		_, e := rule.Flags(l)
		for _, kind := range []int{api.SetFlag, api.AddFlag} {
			checks(t, api.ErrRight, command(kind, l...))
			checks(t, api.ErrRight, needs("fileinto", "reject", "envelope"), command(kind, l...))
			checks(t, e, needs("imap4flags"), command(kind, l...))
			checks(t, e, needs("imap4flags"), unless(api.Test{Kind: api.False}, command(kind, l...)))
		}
	}
}

// P6.4: the names of an Envelope.
func TestEnvelopeNames(t *testing.T) {
	for _, l := range [][]string{{"from"}, {"to"}, {"from", "to"}, {"to", "to", "from"}} {
		checks(t, api.ErrRight, when(mailFrom(l...)))
		checks(t, api.OK, needs("envelope"), when(mailFrom(l...)))
		for i := range l {
			for _, s := range []string{"", "From", "TO", "cc", "from ", " to", "fro", "t", "to\x00", "fromto", text(100), text(101)} {
				bad := append([]string{}, l...)
				bad[i] = s
				checks(t, api.ErrRight, when(mailFrom(bad...)))
				checks(t, api.ErrNone, needs("envelope"), when(mailFrom(bad...)))
			}
		}
	}
	// Its keys come last.
	x := mailFrom("from")
	x.Keys = []string{"a", text(101)}
	checks(t, api.ErrRight, when(x))
	checks(t, api.ErrSize, needs("envelope"), when(x))
	x.Names = []string{"from", "x"}
	checks(t, api.ErrNone, needs("envelope"), when(x))
}

// P6.4: how long names and keys may be.
func TestLengths(t *testing.T) {
	for _, n := range []int{0, 1, 99, 100, 101, 102, 2000, 5000} {
		want := api.OK
		if n > 100 {
			want = api.ErrSize
		}
		for _, l := range [][]string{{text(n)}, {"a", text(n)}, {text(n), "a"}, {"a", text(n), text(100)}} {
			ok := []string{"from", text(100)}
			checks(t, want, when(api.Test{Kind: api.Exists, Names: l}))
			checks(t, want, when(api.Test{Kind: api.Header, Match: api.Matches, Names: l, Keys: ok}))
			checks(t, want, when(api.Test{Kind: api.Header, Match: api.Matches, Names: ok, Keys: l}))
			checks(t, want, when(api.Test{Kind: api.Addr, Match: api.Is, Part: api.Domain, Names: l, Keys: ok}))
			checks(t, want, when(api.Test{Kind: api.Addr, Match: api.Is, Part: api.Domain, Names: ok, Keys: l}))
			checks(t, want, needs("envelope"), when(api.Test{Kind: api.Envelope, Match: api.Is, Part: api.Local, Names: []string{"to"}, Keys: l}))
		}
	}
}

// inside: a test within others.
func inside(x api.Test) []api.Test {
	yes := api.Test{Kind: api.True}
	no := api.Test{Kind: api.Not, Tests: []api.Test{x}}
	return []api.Test{
		x, no, {Kind: api.AllOf, Tests: []api.Test{x}}, {Kind: api.AnyOf, Tests: []api.Test{yes, x}}, {Kind: api.AllOf, Tests: []api.Test{yes, no, yes}},
		{Kind: api.Not, Tests: []api.Test{{Kind: api.Not, Tests: []api.Test{{Kind: api.Not, Tests: []api.Test{no}}}}}},
	}
}

// P6.4: those in a test, too, wherever the If stands.
func TestInnerTests(t *testing.T) {
	yes := api.Test{Kind: api.True}
	long := api.Test{Kind: api.Exists, Names: []string{text(101)}}
	for _, c := range []struct {
		x                api.Test
		without, allowed api.Errno
	}{
		{yes, api.OK, api.OK},
		{long, api.ErrSize, api.ErrSize},
		{mailFrom("from"), api.ErrRight, api.OK},
		{mailFrom("cc"), api.ErrRight, api.ErrNone},
	} {
		for _, x := range inside(c.x) {
			for _, i := range []api.Command{when(x), unless(x), when(yes, when(x)), unless(yes, when(x)), unless(yes, command(api.Keep), when(x)), unless(yes, unless(yes, when(x)))} {
				checks(t, c.without, i)
				checks(t, c.without, needs(without("envelope")...), i)
				checks(t, c.allowed, needs("envelope"), i)
			}
		}
	}
}

// wrongs: commands, each with what is told of it if nothing is required but `reject`, all of them different where that can be.
func wrongs() []struct {
	c    api.Command
	want api.Errno
} {
	return []struct {
		c    api.Command
		want api.Errno
	}{
		{command(api.FileInto, ""), api.ErrRight},
		{command(api.Redirect, ""), api.ErrForm},
		{needs("reject"), api.ErrForm},
		{when(api.Test{Kind: api.Exists, Names: []string{text(101)}}, command(api.FileInto, "a")), api.ErrSize},
		{command(api.Reject, ""), api.OK},
		{command(api.Keep), api.OK},
	}
}

// P6.3: the first thing that is wrong tells the error: command by command, of an If its test, Then, Else.
func TestOrder(t *testing.T) {
	yes := api.Test{Kind: api.True}
	long := api.Test{Kind: api.Header, Match: api.Is, Names: []string{"a"}, Keys: []string{text(101)}}
	for _, a := range wrongs() {
		for _, b := range wrongs() {
			want := a.want
			if want == api.OK {
				want = b.want
			}
			ahead := []api.Command{needs("reject"), command(api.Keep)}
			checks(t, want, append(ahead, a.c, b.c)...)
			checks(t, want, append(ahead, when(yes, a.c), b.c)...)
			checks(t, want, append(ahead, unless(yes, a.c), b.c)...)
			checks(t, want, append(ahead, when(yes, a.c, b.c))...)
			checks(t, want, append(ahead, unless(yes, a.c, b.c))...)
			checks(t, want, append(ahead, api.Command{Kind: api.If, Test: yes, Then: []api.Command{a.c}, Else: []api.Command{b.c}})...)
			checks(t, api.ErrSize, append(ahead, api.Command{Kind: api.If, Test: long, Then: []api.Command{a.c}, Else: []api.Command{b.c}})...)
		}
	}
	// A test ahead of those in it, and those from left to right.
	pair := func(a, b api.Test) api.Command {
		return when(api.Test{Kind: api.AnyOf, Tests: []api.Test{a, b}})
	}
	checks(t, api.ErrSize, pair(long, mailFrom("from")))
	checks(t, api.ErrRight, pair(mailFrom("from"), long))
	checks(t, api.ErrSize, needs("envelope"), pair(long, mailFrom("cc")))
	checks(t, api.ErrNone, needs("envelope"), pair(mailFrom("cc"), long))
	checks(t, api.ErrSize, pair(api.Test{Kind: api.Not, Tests: []api.Test{long}}, mailFrom("from")))
}

// P6.3: an If that is all that is Else may go on for long.
func TestLongElse(t *testing.T) {
	no := api.Test{Kind: api.False}
	build := func(last api.Command) api.Command {
		c := last
		for range 90 {
			c = unless(no, c)
		}
		return c
	}
	checks(t, api.OK, build(when(no)))
	checks(t, api.ErrRight, build(when(no, command(api.Reject, ""))))
	checks(t, api.OK, needs("reject"), build(when(no, command(api.Reject, ""))))
	checks(t, api.ErrRight, build(when(mailFrom("to"))))
}
