package code_test

import (
	"math/rand/v2"
	"reflect"
	"testing"

	"postroom/api"
	"postroom/code"
	"postroom/judge"
	"postroom/rule"
)

// drawer of scripts, ops and letters: from few texts, so that what is asked for comes about, and clashes.
type drawer struct{ *rand.Rand }

// one of some texts.
func (d drawer) one(l ...string) string { return l[d.IntN(len(l))] }

// some texts, at least one.
func (d drawer) some(l ...string) []string {
	out := []string{d.one(l...)}
	for d.IntN(3) == 0 {
		out = append(out, d.one(l...))
	}
	return out
}

// test that is at most so deep in others.
func (d drawer) test(deep int) api.Test {
	x := api.Test{Kind: api.True + d.IntN(api.Size)}
	if deep > 0 && d.IntN(2) == 0 {
		x.Kind = api.Not + d.IntN(3)
	}
	if deep == 0 && (x.Kind == api.Not || x.Kind == api.AllOf || x.Kind == api.AnyOf) {
		x.Kind = api.Header
	}
	names := []string{"s", "to", "x"}
	keys := []string{"work", "w*", "", "*", "joe", "z", "joe@z"}
	switch x.Kind {
	case api.Not:
		x.Tests = []api.Test{d.test(deep - 1)}
	case api.AllOf, api.AnyOf:
		for range 1 + d.IntN(3) {
			x.Tests = append(x.Tests, d.test(deep-1))
		}
	case api.Header:
		x.Names, x.Keys, x.Match = d.some(names...), d.some(keys...), 1+d.IntN(3)
	case api.Addr:
		x.Names, x.Keys, x.Match, x.Part = d.some(names...), d.some(keys...), 1+d.IntN(3), 1+d.IntN(3)
	case api.Envelope:
		x.Names, x.Keys, x.Match, x.Part = d.some("from", "to"), d.some(keys...), 1+d.IntN(3), 1+d.IntN(3)
	case api.Exists:
		x.Names = d.some(names...)
	case api.Size:
		x.Over, x.Limit = d.IntN(2) == 0, d.IntN(60)
	}
	return x
}

// plain command: no If.
func (d drawer) plain() api.Command {
	c := api.Command{Kind: api.Keep + d.IntN(api.Stop-api.Keep+1)}
	if (c.Kind == api.Stop || c.Kind == api.Reject) && d.IntN(4) > 0 {
		c.Kind = api.FileInto
	}
	switch c.Kind {
	case api.FileInto:
		c.Texts = []string{d.one("a", "b", "c", "d", "e", "INBOX")}
	case api.Redirect:
		c.Texts = []string{d.one("a@b", "A <a@b>", "c@d")}
	case api.Reject:
		c.Texts = []string{d.one("no", "")}
	case api.SetFlag, api.AddFlag:
		c.Texts = d.some(`\Seen`, `\Answered`, `\Flagged`, `\Deleted`, `\Draft`)
	}
	return c
}

// commands, perhaps none.
func (d drawer) commands(deep, most int) []api.Command {
	var l []api.Command
	for range d.IntN(most + 1) {
		if deep == 0 || d.IntN(2) > 0 {
			l = append(l, d.plain())
			continue
		}
		l = append(l, api.Command{Kind: api.If, Test: d.test(3), Then: d.commands(deep-1, 3), Else: d.commands(deep-1, 2)})
	}
	return l
}

// script with all that may be required.
func (d drawer) script() []api.Command {
	return append([]api.Command{command(api.Require, "fileinto", "reject"), command(api.Require, "envelope", "imap4flags")}, d.commands(2, 10)...)
}

// letter with few fields.
func (d drawer) letter() api.Letter {
	s := ""
	for range d.IntN(4) {
		s += d.one("S: work", "s: other", "To: Joe <joe@z>", "to: a@b, ann@c", "X: ?") + "\r\n"
	}
	return api.Letter{From: api.Address{Local: d.one("joe", "sue"), Domain: "z"}, To: api.Address{Local: "ann", Domain: d.one("y", "z")}, Text: s + "\r\n" + text(d.IntN(40))}
}

// moved: ops that stand so many places further on.
func moved(l []api.Op, n int) []api.Op {
	var out []api.Op
	for _, o := range l {
		if o.Kind == api.Jump || o.Kind == api.JumpTrue || o.Kind == api.JumpFalse {
			o.To += n
		}
		out = append(out, o)
	}
	return out
}

// joined ops: each part is moved behind those ahead of it.
func joined(parts ...[]api.Op) []api.Op {
	var out []api.Op
	for _, p := range parts {
		out = append(out, moved(p, len(out))...)
	}
	return out
}

// opsOfTest, by the chapter's words: part by part, each from the place 0 on.
func opsOfTest(x api.Test) []api.Op {
	if x.Kind == api.Not {
		return joined(opsOfTest(x.Tests[0]), []api.Op{flip()})
	}
	if x.Kind != api.AllOf && x.Kind != api.AnyOf {
		return []api.Op{{Kind: api.Ask, Test: x}}
	}
	kind := map[int]int{api.AllOf: api.JumpFalse, api.AnyOf: api.JumpTrue}[x.Kind]
	// From the last one on: each goes as far as there is to go.
	out := opsOfTest(x.Tests[len(x.Tests)-1])
	for i := len(x.Tests) - 2; i >= 0; i-- {
		out = joined(opsOfTest(x.Tests[i]), []api.Op{jump(kind, 1+len(out))}, out)
	}
	return out
}

// opsOfCommands, by the chapter's words: part by part, each from the place 0 on.
func opsOfCommands(l []api.Command) []api.Op {
	var out []api.Op
	for _, c := range l {
		if c.Kind != api.If {
			out = joined(out, []api.Op{{Kind: api.Do, What: c}})
			continue
		}
		then, other := opsOfCommands(c.Then), opsOfCommands(c.Else)
		if len(other) > 0 {
			then = joined(then, []api.Op{jump(api.Jump, 1+len(other))})
		}
		out = joined(out, opsOfTest(c.Test), []api.Op{jump(api.JumpFalse, 1+len(then))}, then, other)
	}
	return out
}

// P8.1 to P8.5: drawn scripts have the ops that the chapter's words tell, which make the course that the script makes.
func TestScriptsDrawn(t *testing.T) {
	d := drawer{rand.New(rand.NewPCG(8, 1))}
	count := map[api.Errno]int{}
	for range 5000 {
		cs, x := d.script(), d.letter()
		if rule.Check(cs) != api.OK {
			continue
		}
		l, e := code.Compile(cs)
		if want := opsOfCommands(cs); e != api.OK || !reflect.DeepEqual(l, want) {
			t.Fatalf("Compile(%+v) = %s, %v; want %s", cs, shapeOf(l), e, shapeOf(want))
		}
		if e := code.Check(l); e != api.OK {
			t.Fatalf("Check(%+v) = %v", l, e)
		}
		want, _ := judge.Judge(cs, x)
		got, n, e := code.Run(l, x)
		if !sameCourse(got, want) || e != api.OK || n > len(l) {
			t.Fatalf("Run(%+v, %+v) = %+v, %d, %v; want %+v", l, x, got, n, e, want)
		}
		count[want.Fault]++
	}
	for _, e := range []api.Errno{api.OK, api.ErrClash, api.ErrFull} {
		if count[e] < 100 {
			t.Errorf("%v came up %d times", e, count[e])
		}
	}
}

// op that is to stand at a place, of so many; mostly one that may be.
func (d drawer) op(at, many int) api.Op {
	o := api.Op{Kind: api.Ask + d.IntN(api.Do)}
	switch o.Kind {
	case api.Ask:
		o.Test = d.test(0)
	case api.Do:
		o.What = d.plain()
	case api.Jump, api.JumpTrue, api.JumpFalse:
		o.To = at + 1 + d.IntN(min(4, many-at))
	}
	switch d.IntN(150) {
	case 0:
		o.Kind = d.IntN(8)
	case 1:
		o.To = d.IntN(many + 2)
	case 2:
		o.Test = d.test(1)
	case 3:
		o.What = api.Command{Kind: d.IntN(12)}
	}
	return o
}

// course of ops, by the chapter's words: from a place on, with what was told last.
func course(l []api.Op, at int, told bool, c api.Course, x api.Letter) (api.Course, int) {
	if at == len(l) {
		return c, 0
	}
	next := at + 1
	switch o := l[at]; {
	case o.Kind == api.Ask:
		told, _ = judge.Ask(o.Test, x)
	case o.Kind == api.Flip:
		told = !told
	case o.Kind == api.Jump, o.Kind == api.JumpTrue && told, o.Kind == api.JumpFalse && !told:
		next = o.To
	case o.Kind == api.Do:
		on := false
		if c, on, _ = judge.Do(c, o.What); !on {
			return c, 1
		}
	}
	c, n := course(l, next, told, c, x)
	return c, n + 1
}

// wrong: what is to be told of an op at a place, of so many, by the chapter's words.
func wrong(o api.Op, at, many int) api.Errno {
	jumps := o.Kind == api.Jump || o.Kind == api.JumpTrue || o.Kind == api.JumpFalse
	var none api.Op
	if none.Kind = o.Kind; jumps {
		none.To = o.To
	}
	all := command(api.Require, "fileinto", "reject", "envelope", "imap4flags")
	switch {
	case o.Kind <= 0 || o.Kind > 6:
		return api.ErrKind
	case jumps && (o.To <= at || o.To > many):
		return api.ErrRange
	case o.Kind == api.Ask:
		none.Test = o.Test
	case o.Kind == api.Do:
		none.What = o.What
	}
	switch {
	case !reflect.DeepEqual(o, none), o.Kind == api.Do && o.What.Kind == api.If:
		return api.ErrForm
	case o.Kind == api.Ask && (o.Test.Kind == api.Not || o.Test.Kind == api.AllOf || o.Test.Kind == api.AnyOf):
		return api.ErrForm
	case o.Kind == api.Ask:
		return rule.Check([]api.Command{all, {Kind: api.If, Test: o.Test}})
	case o.Kind == api.Do:
		return rule.Check([]api.Command{all, o.What})
	}
	return api.OK
}

// P8.4, P8.5: drawn ops are refused, or make the course, as the chapter's words tell.
func TestOpsDrawn(t *testing.T) {
	d := drawer{rand.New(rand.NewPCG(8, 2))}
	count := map[api.Errno]int{}
	for range 30000 {
		x := d.letter()
		l := make([]api.Op, d.IntN(20))
		for i := range l {
			l[i] = d.op(i, len(l))
		}
		want := api.OK
		for i := len(l) - 1; i >= 0; i-- {
			if e := wrong(l[i], i, len(l)); e != api.OK {
				want = e
			}
		}
		count[want]++
		if want != api.OK {
			checks(t, want, l...)
		} else {
			checks(t, api.OK, l...)
			c, n := course(l, 0, false, api.Course{}, x)
			runs(t, l, x, c, n)
			if n > len(l) {
				t.Errorf("%d of %d ops are done", n, len(l))
			}
		}
		if t.Failed() {
			return
		}
	}
	for _, e := range []api.Errno{api.OK, api.ErrKind, api.ErrRange, api.ErrForm} {
		if count[e] < 100 {
			t.Errorf("%v came up %d times", e, count[e])
		}
	}
}
