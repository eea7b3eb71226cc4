package rule_test

import (
	"slices"
	"strconv"
	"testing"

	"postroom/api"
	"postroom/rule"
)

// A script with lists of all sorts.
const mixed = all + `require "reject"; if anyof (header ["n", "m"] ["k", "l"], not exists ["x", "y", "z"], envelope ["from", "to"] "q") { addflag ["\\Seen", "\\Draft", "\\Seen"]; fileinto "f"; if true { keep; } }
elsif size :over 1 { keep; stop; } else { reject "g"; discard; stop; } setflag "\\Flagged"; redirect "Ann <a@b>"; stop;`

// places of all lists of a script, spare room too.
type places struct {
	texts    []*string
	tests    []*api.Test
	commands []*api.Command
}

// ofTexts: the places of a list of texts.
func (p *places) ofTexts(l []string) {
	l = l[:cap(l)]
	for i := range l {
		p.texts = append(p.texts, &l[i])
	}
}

// ofTest: those of the lists within a test.
func (p *places) ofTest(x api.Test) {
	p.ofTexts(x.Names)
	p.ofTexts(x.Keys)
	l := x.Tests[:cap(x.Tests)]
	for i := range l {
		p.tests = append(p.tests, &l[i])
		p.ofTest(l[i])
	}
}

// ofCommands: those of a list of commands, and of the lists within it.
func (p *places) ofCommands(l []api.Command) {
	l = l[:cap(l)]
	for i := range l {
		p.commands = append(p.commands, &l[i])
		p.ofTexts(l[i].Texts)
		p.ofTest(l[i].Test)
		p.ofCommands(l[i].Then)
		p.ofCommands(l[i].Else)
	}
}

// twice tells whether a place is there twice.
func twice[T any](l []*T) bool {
	seen := map[*T]int{}
	for _, p := range l {
		seen[p]++
	}
	return len(seen) != len(l)
}

// overwrite all places.
func (p *places) overwrite() {
	for i, x := range p.texts {
		*x = strconv.Itoa(i)
	}
	for i, x := range p.tests {
		*x = api.Test{Kind: 100 + i}
	}
	for i, x := range p.commands {
		*x = api.Command{Kind: 100 + i}
	}
}

// copied: a script that shares nothing with this one, with spare room that has something in it.
func copied(l []api.Command) []api.Command {
	out := make([]api.Command, len(l), len(l)+2)
	for i, c := range l {
		out[i] = api.Command{Kind: c.Kind, Texts: roomy(c.Texts), Test: copiedTest(c.Test), Then: copied(c.Then), Else: copied(c.Else)}
	}
	spare := out[len(l):cap(out)]
	for i := range spare {
		spare[i] = api.Command{Kind: 77, Texts: []string{"spare"}}
	}
	return out
}

// copiedTest, too.
func copiedTest(x api.Test) api.Test {
	tests := make([]api.Test, len(x.Tests), len(x.Tests)+1)
	for i, y := range x.Tests {
		tests[i] = copiedTest(y)
	}
	tests[:cap(tests)][len(tests)] = api.Test{Kind: 77}
	x.Names, x.Keys, x.Tests = roomy(x.Names), roomy(x.Keys), tests
	return x
}

// roomy: a copy of texts, with something in its spare room.
func roomy(l []string) []string {
	return append(append(make([]string, 0, len(l)+1), l...), "spare")[:len(l)]
}

// sameWithRoom: are they the same, in their spare room too?
func sameWithRoom(a, b []api.Command) bool {
	return slices.EqualFunc(a[:cap(a)], b[:cap(b)], func(c, d api.Command) bool {
		return c.Kind == d.Kind && sameTexts(c.Texts, d.Texts) && sameTestRoom(c.Test, d.Test) && sameWithRoom(c.Then, d.Then) && sameWithRoom(c.Else, d.Else)
	})
}

// sameTexts, in their spare room too.
func sameTexts(a, b []string) bool { return slices.Equal(a[:cap(a)], b[:cap(b)]) }

// sameTestRoom, too.
func sameTestRoom(a, b api.Test) bool {
	return a.Kind == b.Kind && sameTexts(a.Names, b.Names) && sameTexts(a.Keys, b.Keys) && slices.EqualFunc(a.Tests[:cap(a.Tests)], b.Tests[:cap(b.Tests)], sameTestRoom)
}

// What Read answers is new memory: no two lists of it, and no two answers, share any.
func TestReadSharesNothing(t *testing.T) {
	one, e := rule.Read(mixed)
	if e != api.OK {
		t.Fatal(e)
	}
	two, _ := rule.Read(mixed)
	kept := copied(two)
	var p places
	p.ofCommands(one)
	if twice(p.texts) || twice(p.tests) || twice(p.commands) {
		t.Error("two lists of one answer share memory")
	}
	p.overwrite()
	if !sameCommands(two, kept) {
		t.Error("two answers share memory")
	}
	three, _ := rule.Read(mixed)
	if !sameCommands(three, kept) {
		t.Error("an answer is kept")
	}
}

// What Check and Flags are handed stays as it is, its spare room too.
func TestHandedInStays(t *testing.T) {
	l, e := rule.Read(mixed)
	if e != api.OK {
		t.Fatal(e)
	}
	in, kept := copied(l), copied(l)
	checks(t, api.OK, in...)
	if rule.Check(in) != api.OK || !sameWithRoom(in, kept) {
		t.Error("Check changes what it is handed")
	}
	names := roomy([]string{`\Seen`, `\Seen`, `\Draft`})
	before := slices.Clone(names[:cap(names)])
	flags(t, api.Seen|api.Draft, api.OK, names...)
	if !slices.Equal(names[:cap(names)], before) {
		t.Error("Flags changes what it is handed")
	}
}

// Lists without elements may be nil or not.
func TestEmptyLists(t *testing.T) {
	none := api.Test{Names: []string{}, Keys: []string{}, Tests: []api.Test{}}
	yes := none
	yes.Kind = api.True
	for _, c := range []api.Command{
		{Kind: api.Keep, Texts: []string{}, Test: none, Then: []api.Command{}, Else: []api.Command{}},
		{Kind: api.Redirect, Texts: []string{"a@b"}, Test: none, Then: []api.Command{}, Else: []api.Command{}},
		{Kind: api.If, Texts: []string{}, Test: yes, Then: []api.Command{}, Else: []api.Command{}},
		{Kind: api.If, Test: api.Test{Kind: api.True}},
	} {
		checks(t, api.OK, c)
	}
	if rule.Check(nil) != api.OK || rule.Check([]api.Command{}) != api.OK {
		t.Error("a script without commands is refused")
	}
}
