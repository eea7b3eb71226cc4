package judge_test

import (
	"slices"
	"testing"

	"postroom/api"
	"postroom/judge"
)

// spare: what stands in the spare room of lists that are handed in.
var spare = api.Action{Kind: 77, Text: "spare", Flags: 77}

// roomy: a copy of actions, with something in its spare room.
func roomy(l []api.Action) []api.Action {
	return append(append(make([]api.Action, 0, len(l)+2), l...), spare, spare)[:len(l)]
}

// overwrite a list, its spare room too.
func overwrite(l []api.Action) {
	l = l[:cap(l)]
	for i := range l {
		l[i] = api.Action{Kind: 99, Text: "overwritten"}
	}
}

// What Do and End are handed stays as it is, its spare room too, and what they answer is new memory.
func TestCourseSharesNothing(t *testing.T) {
	reject := []api.Action{action(api.Reject, "a")}
	for _, l := range [][]api.Action{nil, {}, {action(api.Keep, "")}, boxes(5), boxes(6), reject} {
		for _, fault := range []api.Errno{api.OK, api.ErrClash} {
			for _, x := range rightCommands() {
				c := api.Course{Actions: roomy(l), Asked: true, Fault: fault}
				kept := slices.Clone(c.Actions[:cap(c.Actions)])
				one, _, e := judge.Do(c, x)
				two, _, f := judge.Do(c, x)
				done, g := judge.End(c)
				again, h := judge.End(c)
				if e != api.OK || f != api.OK || g != api.OK || h != api.OK || !slices.Equal(c.Actions[:cap(c.Actions)], kept) {
					t.Fatalf("Do or End changes what it is handed: %v", c.Actions[:cap(c.Actions)])
				}
				twoKept, againKept := slices.Clone(two.Actions), slices.Clone(again)
				overwrite(one.Actions)
				overwrite(done)
				if !slices.Equal(c.Actions[:cap(c.Actions)], kept) {
					t.Errorf("Do or End answers memory that it was handed, of %v", x)
				}
				overwrite(c.Actions)
				if !slices.Equal(two.Actions, twoKept) || !slices.Equal(again, againKept) {
					t.Errorf("two answers share memory, or one with what was handed in, of %v", x)
				}
			}
		}
	}
}

// What Check and Judge answer is new memory.
func TestAnswersShareNothing(t *testing.T) {
	l := letterOf(lines("a: b", "c: d", "", "body"))
	one, _ := judge.Check(l)
	two, _ := judge.Check(l)
	for i := range one.Fields[:cap(one.Fields)] {
		one.Fields[:cap(one.Fields)][i] = api.Field{Name: "overwritten"}
	}
	if !slices.Equal(two.Fields, []api.Field{{Name: "a", Value: "b"}, {Name: "c", Value: "d"}}) {
		t.Errorf("two messages share memory: %v", two)
	}
	cs := read(t, `keep; if exists "a" { fileinto "x"; }`)
	first, _ := judge.Judge(cs, l)
	second, _ := judge.Judge(cs, l)
	overwrite(first.Actions)
	if !sameCourse(second, asked(action(api.Keep, ""), action(api.FileInto, "x"))) {
		t.Errorf("two courses share memory: %v", second)
	}
}

// roomyTexts: a copy of texts, with something in its spare room.
func roomyTexts(l []string) []string {
	return append(append(make([]string, 0, len(l)+1), l...), "spare")[:len(l)]
}

// A test and a script that are handed in stay as they are, their spare room too.
func TestHandedInStays(t *testing.T) {
	names, keys := roomyTexts([]string{"S", "x"}), roomyTexts([]string{"W*", "B"})
	inner := api.Test{Kind: api.Header, Match: api.Matches, Names: names, Keys: keys}
	tests := append(make([]api.Test, 0, 2), inner, api.Test{Kind: 77})[:1]
	x := api.Test{Kind: api.AllOf, Tests: tests}
	texts := roomyTexts([]string{`\Seen`, `\Draft`})
	then := append(make([]api.Command, 0, 3), command(api.AddFlag, texts...), command(api.Keep), command(77))[:2]
	script := append(make([]api.Command, 0, 3), command(api.Require, "imap4flags"), api.Command{Kind: api.If, Test: x, Then: then}, command(77))[:2]
	l := letterOf(lines("s: Work", "", ""))
	asks(t, true, x, l)
	judges(t, script, l, api.Course{Actions: []api.Action{{Kind: api.Keep, Flags: 17}}, Flags: 17, Asked: true})
	does(t, api.Course{}, then[0], api.Course{Flags: 17}, true)
	if !slices.Equal(names[:3], []string{"S", "x", "spare"}) || !slices.Equal(keys[:3], []string{"W*", "B", "spare"}) || !slices.Equal(texts[:3], []string{`\Seen`, `\Draft`, "spare"}) {
		t.Errorf("texts are changed: %v %v %v", names[:3], keys[:3], texts[:3])
	}
	if tests[:2][0].Kind != api.Header || tests[:2][1].Kind != 77 || then[:3][2].Kind != 77 || script[:3][2].Kind != 77 || script[1].Kind != api.If || then[0].Kind != api.AddFlag || then[1].Kind != api.Keep {
		t.Errorf("lists are changed: %v %v %v", tests[:2], then[:3], script[:3])
	}
}

// Lists without elements may be nil or not.
func TestEmptyLists(t *testing.T) {
	none := api.Test{Names: []string{}, Keys: []string{}, Tests: []api.Test{}}
	yes := none
	yes.Kind = api.True
	keep := api.Command{Kind: api.Keep, Texts: []string{}, Test: none, Then: []api.Command{}, Else: []api.Command{}}
	want := asked(action(api.Keep, ""))
	asks(t, true, yes, letterOf("\r\n"))
	does(t, api.Course{Actions: []api.Action{}}, keep, want, true)
	ends(t, api.Course{Actions: []api.Action{}}, action(api.Keep, ""))
	judges(t, []api.Command{{Kind: api.If, Texts: []string{}, Test: yes, Then: []api.Command{keep}, Else: []api.Command{}}}, letterOf("\r\n"), want)
}
