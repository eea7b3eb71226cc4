package code_test

import (
	"reflect"
	"slices"
	"testing"

	"postroom/api"
	"postroom/code"
)

// roomy: a copy of a list, with something in its spare room.
func roomy[E any](spare E, l ...E) []E {
	return append(append(make([]E, 0, len(l)+2), l...), spare, spare)[:len(l)]
}

// roomyTexts: a copy of texts, with something in its spare room.
func roomyTexts(l ...string) []string { return roomy("spare", l...) }

// roomyTest: a test with spare room in all its lists.
func roomyTest(x api.Test) api.Test {
	inner := make([]api.Test, len(x.Tests))
	for i, y := range x.Tests {
		inner[i] = roomyTest(y)
	}
	x.Names, x.Keys, x.Tests = roomyTexts(x.Names...), roomyTexts(x.Keys...), roomy(api.Test{Kind: 77}, inner...)
	return x
}

// roomyCommands with spare room in all their lists.
func roomyCommands(l []api.Command) []api.Command {
	out := make([]api.Command, len(l))
	for i, c := range l {
		out[i] = api.Command{Kind: c.Kind, Texts: roomyTexts(c.Texts...), Test: roomyTest(c.Test), Then: roomyCommands(c.Then), Else: roomyCommands(c.Else)}
	}
	return roomy(api.Command{Kind: 77}, out...)
}

// roomyOps with spare room in all their lists.
func roomyOps(l []api.Op) []api.Op {
	out := make([]api.Op, len(l))
	for i, o := range l {
		out[i] = api.Op{Kind: o.Kind, To: o.To, Test: roomyTest(o.Test), What: roomyCommands([]api.Command{o.What})[0]}
	}
	return roomy(api.Op{Kind: 77}, out...)
}

// wholeTest: a test with all that is in its lists, their spare room too.
func wholeTest(x api.Test) api.Test {
	x.Names, x.Keys, x.Tests = slices.Clone(x.Names[:cap(x.Names)]), slices.Clone(x.Keys[:cap(x.Keys)]), slices.Clone(x.Tests[:cap(x.Tests)])
	for i, y := range x.Tests {
		x.Tests[i] = wholeTest(y)
	}
	return x
}

// wholeCommands with all that is in their lists, their spare room too.
func wholeCommands(l []api.Command) []api.Command {
	out := slices.Clone(l[:cap(l)])
	for i, c := range out {
		out[i] = api.Command{Kind: c.Kind, Texts: slices.Clone(c.Texts[:cap(c.Texts)]), Test: wholeTest(c.Test), Then: wholeCommands(c.Then), Else: wholeCommands(c.Else)}
	}
	return out
}

// wholeOps with all that is in their lists, their spare room too.
func wholeOps(l []api.Op) []api.Op {
	out := slices.Clone(l[:cap(l)])
	for i, o := range out {
		out[i] = api.Op{Kind: o.Kind, To: o.To, Test: wholeTest(o.Test), What: wholeCommands([]api.Command{o.What})[0]}
	}
	return out
}

// overwriteTexts, their spare room too.
func overwriteTexts(l []string) {
	for i := range l[:cap(l)] {
		l[:cap(l)][i] = "overwritten"
	}
}

// overwriteTest: all that is in its lists, their spare room too.
func overwriteTest(x api.Test) {
	overwriteTexts(x.Names)
	overwriteTexts(x.Keys)
	for i := range x.Tests[:cap(x.Tests)] {
		overwriteTest(x.Tests[:cap(x.Tests)][i])
		x.Tests[:cap(x.Tests)][i] = api.Test{Kind: 99}
	}
}

// overwriteCommands: all that is in their lists, their spare room too.
func overwriteCommands(l []api.Command) {
	for i, c := range l[:cap(l)] {
		overwriteTexts(c.Texts)
		overwriteTest(c.Test)
		overwriteCommands(c.Then)
		overwriteCommands(c.Else)
		l[:cap(l)][i] = api.Command{Kind: 99}
	}
}

// overwriteOps: all that is in their lists, their spare room too.
func overwriteOps(l []api.Op) {
	for i, o := range l[:cap(l)] {
		overwriteTest(o.Test)
		overwriteCommands([]api.Command{o.What})
		l[:cap(l)][i] = api.Op{Kind: 99}
	}
}

// sameOps as they are told: lists without elements are the same, be they nil or not.
func sameOps(a, b []api.Op) bool {
	return reflect.DeepEqual(wholeOps(roomyOps(a)), wholeOps(roomyOps(b)))
}

// longScript that has something of everything.
const longScript = all + `if allof (header ["s", "x"] ["a", "b"], not address :domain "to" ["c", "d"], anyof (exists ["s", "to"], size :over 3, true)) { setflag ["\\Seen", "\\Draft"]; fileinto "a"; }
	elsif envelope ["from", "to"] ["joe@z", "e"] { keep; redirect "a@b"; } else { reject "no"; discard; } if false {} stop;`

// What Compile is handed stays as it is, its spare room too; what it answers is new memory.
func TestCompileSharesNothing(t *testing.T) {
	cs := roomyCommands(read(t, longScript))
	kept := wholeCommands(cs)
	one, e := code.Compile(cs)
	two, f := code.Compile(cs)
	three, g := code.Compile(cs)
	if e != api.OK || f != api.OK || g != api.OK || !reflect.DeepEqual(wholeCommands(cs), kept) {
		t.Fatalf("Compile changes what it is handed: %v, %v, %v", e, f, g)
	}
	overwriteOps(one)
	if !reflect.DeepEqual(wholeCommands(cs), kept) {
		t.Error("Compile answers memory that it was handed")
	}
	overwriteCommands(cs)
	if !sameOps(two, three) || !sameOps(two, compileWhole(t)) {
		t.Errorf("two answers share memory, or one with what was handed in: %v", two)
	}
	// No list of an answer shares memory with another one: each is overwritten alone.
	for i := range two {
		for _, l := range []*[]string{&two[i].Test.Names, &two[i].Test.Keys, &two[i].What.Texts} {
			right := slices.Clone(*l)
			overwriteTexts(*l)
			if *l = right; !sameOps(two, three) {
				t.Fatalf("two lists of one answer share memory: %v", two)
			}
		}
	}
}

// compileWhole: the ops of the long script.
func compileWhole(t *testing.T) []api.Op {
	t.Helper()
	l, e := code.Compile(read(t, longScript))
	if e != api.OK {
		t.Fatal(e)
	}
	return l
}

// One text list that stands at several places of a script becomes one of its own at each.
func TestCompileSharedLists(t *testing.T) {
	shared := roomyTexts("a", "b")
	x := api.Test{Kind: api.Header, Match: api.Is, Names: shared, Keys: shared}
	y := api.Test{Kind: api.AnyOf, Tests: []api.Test{x, x}}
	l, e := code.Compile([]api.Command{{Kind: api.If, Test: y}})
	if e != api.OK {
		t.Fatal(e)
	}
	overwriteTexts(l[0].Test.Names)
	want := []string{"a", "b"}
	if !slices.Equal(l[0].Test.Keys, want) || !slices.Equal(l[2].Test.Names, want) || !slices.Equal(l[2].Test.Keys, want) || !slices.Equal(shared, want) {
		t.Errorf("lists share memory: %v %v", l, shared)
	}
}

// What Check and Run are handed stays as it is, its spare room too; lists without elements may be nil or not.
func TestRunSharesNothing(t *testing.T) {
	ops := roomyOps(compileWhole(t))
	kept := wholeOps(ops)
	for _, s := range []string{"s: a\r\nto: x@y\r\n\r\nhello", "x: c\r\n\r\n", "\r\n"} {
		x := letterOf(s)
		if e := code.Check(ops); e != api.OK {
			t.Fatal(e)
		}
		one, n, e := code.Run(ops, x)
		two, m, f := code.Run(ops, x)
		want := api.Course{Actions: slices.Clone(two.Actions), Flags: two.Flags, Asked: two.Asked, Fault: two.Fault}
		if e != api.OK || f != api.OK || n != m || len(one.Actions) == 0 || !reflect.DeepEqual(wholeOps(ops), kept) {
			t.Fatalf("Run changes what it is handed: %v, %v", e, f)
		}
		for i := range one.Actions[:cap(one.Actions)] {
			one.Actions[:cap(one.Actions)][i] = api.Action{Kind: 99}
		}
		if !sameCourse(two, want) {
			t.Errorf("two courses share memory: %v", two)
		}
	}
	none := roomyOps([]api.Op{flip(), jump(api.JumpTrue, 2), ask(api.True), do(api.Keep)})
	if !reflect.DeepEqual(none[0].What.Then, []api.Command{}) || none[0].Test.Names == nil {
		t.Fatal("these lists should be empty, not nil")
	}
	runs(t, none, letterOf("\r\n"), api.Course{Actions: []api.Action{{Kind: api.Keep}}, Asked: true}, 4)
}
