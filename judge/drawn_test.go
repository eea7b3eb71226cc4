package judge_test

import (
	"math/rand/v2"
	"slices"
	"strings"
	"testing"

	"postroom/api"
	"postroom/glob"
	"postroom/judge"
	"postroom/letter"
	"postroom/rule"
	"postroom/who"
)

// drawer of scripts and letters: from few texts, so that what is asked for comes about, and clashes.
type drawer struct{ *rand.Rand }

// one of some texts.
func (d drawer) one(l ...string) string { return l[d.IntN(len(l))] }

// some texts, at least one.
func (d drawer) some(l ...string) []string {
	out := []string{d.one(l...)}
	for d.IntN(3) == 0 {
		out = append(out, d.one(l...))
	}
	return out
}

// test that is at most so deep in others.
func (d drawer) test(deep int) api.Test {
	x := api.Test{Kind: api.True + d.IntN(api.Size)}
	if deep == 0 && (x.Kind == api.Not || x.Kind == api.AllOf || x.Kind == api.AnyOf) {
		x.Kind = api.Header
	}
	names := []string{"s", "S", "to", "From", "x", ""}
	keys := []string{"work", "WORK", "w*", "?", "", "*", "joe", "ann", "z", "joe@z", "@", "a*@?"}
	switch x.Kind {
	case api.Not:
		x.Tests = []api.Test{d.test(deep - 1)}
	case api.AllOf, api.AnyOf:
		for range 1 + d.IntN(3) {
			x.Tests = append(x.Tests, d.test(deep-1))
		}
	case api.Header:
		x.Names, x.Keys, x.Match = d.some(names...), d.some(keys...), 1+d.IntN(3)
	case api.Addr:
		x.Names, x.Keys, x.Match, x.Part = d.some(names...), d.some(keys...), 1+d.IntN(3), 1+d.IntN(3)
	case api.Envelope:
		x.Names, x.Keys, x.Match, x.Part = d.some("from", "to"), d.some(keys...), 1+d.IntN(3), 1+d.IntN(3)
	case api.Exists:
		x.Names = d.some(names...)
	case api.Size:
		x.Over, x.Limit = d.IntN(2) == 0, d.IntN(80)
	}
	return x
}

// plain command: no If.
func (d drawer) plain() api.Command {
	c := api.Command{Kind: api.Keep + d.IntN(api.Stop-api.Keep+1)}
	if c.Kind == api.Stop && d.IntN(4) > 0 {
		c.Kind = api.FileInto
	}
	if c.Kind == api.Reject && d.IntN(4) > 0 {
		c.Kind = api.Redirect
	}
	switch c.Kind {
	case api.FileInto:
		c.Texts = []string{d.one("a", "b", "c", "d", "INBOX")}
	case api.Redirect:
		c.Texts = []string{d.one("a@b", "A <a@b>", "c@d")}
	case api.Reject:
		c.Texts = []string{d.one("no", "")}
	case api.SetFlag, api.AddFlag:
		c.Texts = d.some(`\Seen`, `\Answered`, `\Flagged`, `\Deleted`, `\Draft`)
	}
	return c
}

// commands, perhaps none.
func (d drawer) commands(deep, most int) []api.Command {
	var l []api.Command
	for range d.IntN(most + 1) {
		if deep == 0 || d.IntN(2) > 0 {
			l = append(l, d.plain())
			continue
		}
		l = append(l, api.Command{Kind: api.If, Test: d.test(2), Then: d.commands(deep-1, 3), Else: d.commands(deep-1, 2)})
	}
	return l
}

// script with all that may be required.
func (d drawer) script() []api.Command {
	return append([]api.Command{command(api.Require, "fileinto", "reject"), command(api.Require, "envelope", "imap4flags")}, d.commands(2, 12)...)
}

// letter with few fields, some of which come again.
func (d drawer) letter() api.Letter {
	s := ""
	for range d.IntN(5) {
		s += d.one("S: work", "s: other", "s:", "To: Joe <joe@z>", "to: a@b, ann@c", "X: ?", "From: joe@z", "FROM: joe, ann", "to: x@y,\r\n z@z") + "\r\n"
	}
	return api.Letter{From: api.Address{Local: d.one("joe", "sue"), Domain: "z"}, To: api.Address{Local: "ann", Domain: d.one("y", "z")}, Text: s + "\r\n" + text(d.IntN(40))}
}

// told: what a test tells, by the chapter's words.
func told(x api.Test, l api.Letter) bool {
	m, _, _ := letter.Parse(l.Text)
	fits := func(s string) bool {
		for _, k := range x.Keys {
			if ok, _ := glob.Match(x.Match, s, k); ok {
				return true
			}
		}
		return false
	}
	is := false
	switch x.Kind {
	case api.True:
		is = true
	case api.Not:
		is = !told(x.Tests[0], l)
	case api.AllOf, api.AnyOf:
		n := 0
		for _, y := range x.Tests {
			if told(y, l) {
				n++
			}
		}
		is = n == len(x.Tests) || x.Kind == api.AnyOf && n > 0
	case api.Size:
		is = x.Over && len(l.Text) > x.Limit || !x.Over && len(l.Text) < x.Limit
	case api.Exists:
		is = true
		for _, n := range x.Names {
			v, _ := letter.Values(m, n)
			is = is && len(v) > 0
		}
	}
	for _, n := range x.Names {
		var texts []string
		values, _ := letter.Values(m, n)
		for _, v := range values {
			addresses, _ := who.List(v)
			if x.Kind == api.Header {
				texts = append(texts, v)
			}
			for _, a := range addresses {
				if s, _ := who.Part(x.Part, a); x.Kind == api.Addr {
					texts = append(texts, s)
				}
			}
		}
		if x.Kind == api.Envelope {
			s, _ := who.Part(x.Part, map[string]api.Address{"from": l.From, "to": l.To}[n])
			texts = append(texts, s)
		}
		is = is || slices.ContainsFunc(texts, fits)
	}
	return is
}

// P7.2: drawn tests.
func TestAskDrawn(t *testing.T) {
	d := drawer{rand.New(rand.NewPCG(7, 1))}
	count := map[[2]int]int{}
	for range 40000 {
		x, l := d.test(2), d.letter()
		want := told(x, l)
		asks(t, want, x, l)
		if t.Failed() {
			return
		}
		one := 0
		if want {
			one = 1
		}
		count[[2]int{x.Kind, one}]++
	}
	for kind := api.Not; kind <= api.Size; kind++ {
		if count[[2]int{kind, 0}] < 100 || count[[2]int{kind, 1}] < 100 {
			t.Errorf("kind %d: %d times false, %d times true", kind, count[[2]int{kind, 0}], count[[2]int{kind, 1}])
		}
	}
}

// steps: the commands that a script comes to, of a letter, if it always goes on.
func steps(cs []api.Command, l api.Letter) []api.Command {
	var out []api.Command
	for _, c := range cs {
		switch {
		case c.Kind != api.If:
			out = append(out, c)
		case told(c.Test, l):
			out = append(out, steps(c.Then, l)...)
		default:
			out = append(out, steps(c.Else, l)...)
		}
	}
	return out
}

// stepped: the course behind one command, by the chapter's words.
func stepped(c api.Course, x api.Command) (api.Course, bool) {
	c.Actions = slices.Clone(c.Actions)
	flags, _ := rule.Flags(x.Texts)
	a := api.Action{Kind: x.Kind, Text: strings.Join(x.Texts, "")}
	switch x.Kind {
	case api.Require:
		return c, true
	case api.Stop:
		return c, false
	case api.SetFlag:
		c.Flags = flags
		return c, true
	case api.AddFlag:
		c.Flags |= flags
		return c, true
	case api.Keep, api.FileInto:
		a.Flags = c.Flags
	case api.Redirect:
		addresses, _ := who.List(a.Text)
		a.Text, _ = who.Part(api.All, addresses[0])
	}
	c.Asked = true
	n := map[int]int{}
	same := 0
	for _, b := range c.Actions {
		n[b.Kind]++
		if a.Kind == b.Kind && a.Text == b.Text {
			same++
		}
	}
	three := n[api.Keep] + n[api.FileInto] + n[api.Redirect]
	switch {
	case a.Kind == api.Reject && n[api.Reject]+three > 0, a.Kind != api.Reject && a.Kind != api.Discard && n[api.Reject] > 0:
		c.Fault = api.ErrClash
	case same > 0:
	case len(c.Actions) == api.MaxActions:
		c.Fault = api.ErrFull
	default:
		c.Actions = append(c.Actions, a)
	}
	return c, c.Fault == api.OK
}

// P7.4, P7.6: drawn scripts make the course that the chapter's words tell, and the one that Do makes step by step.
func TestJudgeDrawn(t *testing.T) {
	d := drawer{rand.New(rand.NewPCG(7, 2))}
	count := map[api.Errno]int{}
	for range 20000 {
		cs, l := d.script(), d.letter()
		if rule.Check(cs) != api.OK {
			continue
		}
		var want api.Course
		for _, x := range steps(cs, l) {
			next, on := stepped(want, x)
			does(t, want, x, next, on)
			if want = next; !on {
				break
			}
		}
		judges(t, cs, l, want)
		count[want.Fault]++
		neverLost(t, want)
		if t.Failed() {
			return
		}
	}
	for _, e := range []api.Errno{api.OK, api.ErrClash, api.ErrFull} {
		if count[e] < 100 {
			t.Errorf("%v came up %d times", e, count[e])
		}
	}
}

// neverLost: something is done that was asked for, or the letter is kept.
func neverLost(t *testing.T, c api.Course) {
	t.Helper()
	l, e := judge.End(c)
	if e != api.OK || len(l) == 0 {
		t.Errorf("End(%v) = %v, %v", c, l, e)
	}
	for _, a := range l {
		if a.Kind != api.Keep && !slices.Contains(c.Actions, a) {
			t.Errorf("End(%v) = %v, which was not asked for", c, l)
		}
	}
}
