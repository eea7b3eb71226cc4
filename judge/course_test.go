package judge_test

import (
	"math"
	"slices"
	"testing"

	"postroom/api"
	"postroom/judge"
	"postroom/rule"
)

// does: the course behind a command, and whether it goes on.
func does(t *testing.T, from api.Course, x api.Command, want api.Course, goesOn bool) {
	t.Helper()
	if got, on, e := judge.Do(from, x); !sameCourse(got, want) || on != goesOn || e != api.OK {
		t.Errorf("Do(%s, %s) = %s, %v, %v; want %s, %v", brief(from), brief(x), brief(got), on, e, brief(want), goesOn)
	}
}

// doesNot: Do tells this error, and nothing else.
func doesNot(t *testing.T, want api.Errno, from api.Course, x api.Command) {
	t.Helper()
	if got, on, e := judge.Do(from, x); !sameCourse(got, api.Course{}) || on || e != want {
		t.Errorf("Do(%s, %s) = %s, %v, %v; want %v", brief(from), brief(x), brief(got), on, e, want)
	}
}

// ends: what is done.
func ends(t *testing.T, from api.Course, want ...api.Action) {
	t.Helper()
	if got, e := judge.End(from); !slices.Equal(got, want) || e != api.OK {
		t.Errorf("End(%s) = %v, %v; want %v", brief(from), got, e, want)
	}
}

// asked: a course that has asked for these.
func asked(l ...api.Action) api.Course { return api.Course{Actions: l, Asked: true} }

// action of a kind, with a text.
func action(kind int, text string) api.Action { return api.Action{Kind: kind, Text: text} }

// boxes: so many different FileIntos.
func boxes(n int) []api.Action {
	var l []api.Action
	for i := range n {
		l = append(l, action(api.FileInto, string(rune('a'+i))))
	}
	return l
}

// wrongCourses: courses that may not be.
func wrongCourses() []api.Course {
	return []api.Course{
		{Flags: -1}, {Flags: 32}, {Flags: 33}, {Flags: 64}, {Flags: math.MinInt}, {Flags: math.MaxInt}, {Flags: 1 << 32}, {Flags: 32, Asked: true, Fault: api.ErrFull},
		{Actions: boxes(7)}, {Actions: make([]api.Action, 7)}, {Actions: make([]api.Action, 1<<16), Asked: true}, {Actions: boxes(7), Flags: -1, Fault: api.ErrClash},
	}
}

// rightCommands: one of each kind, but If.
func rightCommands() []api.Command {
	return []api.Command{
		command(api.Require, "reject"), command(api.Keep), command(api.Discard), command(api.FileInto, "new"), command(api.Redirect, "new@x"), command(api.Reject, "new"),
		command(api.SetFlag, `\Seen`), command(api.AddFlag, `\Seen`), command(api.Stop),
	}
}

// wrongCommands: each with what is told of it.
func wrongCommands() []struct {
	x    api.Command
	want api.Errno
} {
	yes := api.Test{Kind: api.True}
	return []struct {
		x    api.Command
		want api.Errno
	}{
		{api.Command{Kind: api.If}, api.ErrKind}, {api.Command{Kind: api.If, Test: yes}, api.ErrKind}, {api.Command{Kind: api.If, Test: yes, Texts: []string{"a"}}, api.ErrKind},
		{api.Command{Kind: api.If, Test: api.Test{Kind: api.Not}}, api.ErrKind}, {api.Command{Kind: api.If, Test: yes, Then: []api.Command{command(api.FileInto, "a b")}}, api.ErrKind},
		{api.Command{}, api.ErrKind}, {api.Command{Kind: -1}, api.ErrKind}, {api.Command{Kind: 11, Texts: []string{"a"}}, api.ErrKind}, {api.Command{Kind: math.MaxInt}, api.ErrKind},
		{command(api.Keep, "a"), api.ErrForm}, {command(api.Stop, ""), api.ErrForm}, {command(api.Discard, "a"), api.ErrForm}, {api.Command{Kind: api.Keep, Test: yes}, api.ErrForm},
		{api.Command{Kind: api.Keep, Then: []api.Command{{Kind: api.Keep}}}, api.ErrForm}, {command(api.FileInto), api.ErrForm}, {command(api.FileInto, "a", "b"), api.ErrForm},
		{command(api.Reject), api.ErrForm}, {command(api.Redirect), api.ErrForm}, {command(api.Require), api.ErrForm}, {command(api.SetFlag), api.ErrForm},
		{command(api.Require, "none"), api.ErrNone}, {command(api.Require, "reject", "Reject"), api.ErrNone}, {command(api.SetFlag, "Seen"), api.ErrNone}, {command(api.AddFlag, `\Seen`, ""), api.ErrNone},
		{command(api.FileInto, ""), api.ErrSize}, {command(api.FileInto, text(13)), api.ErrSize}, {command(api.FileInto, "a b"), api.ErrForm},
		{command(api.Redirect, ""), api.ErrForm}, {command(api.Redirect, "a@b, c@d"), api.ErrForm}, {command(api.Redirect, "a"), api.ErrForm}, {command(api.Redirect, text(2001)), api.ErrForm},
		{command(api.AddFlag, slices.Repeat([]string{`\Seen`}, 195)...), api.ErrFull},
	}
}

// P7.3: a course that may not be is told ahead of all else.
func TestWrongCourses(t *testing.T) {
	for _, c := range wrongCourses() {
		for _, x := range rightCommands() {
			doesNot(t, api.ErrState, c, x)
		}
		for _, w := range wrongCommands() {
			doesNot(t, api.ErrState, c, w.x)
		}
		if got, e := judge.End(c); len(got) > 0 || e != api.ErrState {
			t.Errorf("End(%s) = %v, %v", brief(c), got, e)
		}
	}
}

// P7.3: nothing else of a course is asked.
func TestRightCourses(t *testing.T) {
	odd := api.Action{Kind: -7, Text: text(3000), Flags: math.MinInt}
	for _, l := range [][]api.Action{nil, {}, boxes(1), boxes(5), {odd}, {odd, odd, {}, {Kind: api.If}, {Kind: api.Keep}}} {
		for flags := range allFlags + 1 {
			c := api.Course{Actions: l, Flags: flags}
			does(t, c, command(api.Discard), api.Course{Actions: append(slices.Clone(l), action(api.Discard, "")), Flags: flags, Asked: true}, true)
			ends(t, c, api.Action{Kind: api.Keep, Flags: flags})
		}
	}
}

// P7.4: what is refused of a command, of a course with a Fault, too.
func TestDoRefuses(t *testing.T) {
	for _, w := range wrongCommands() {
		for _, c := range []api.Course{{}, {Flags: allFlags, Asked: true}, asked(boxes(6)...), asked(action(api.Reject, "a")), {Fault: api.ErrClash}} {
			doesNot(t, w.want, c, w.x)
		}
	}
}

// P7.4: as many tokens as can be, with a Require of all extensions.
func TestDoFull(t *testing.T) {
	// The Require has 11 tokens, the command 4, and n flags 2n - 1.
	for n := 185; n < 200; n++ {
		x := command(api.SetFlag, slices.Repeat([]string{`\Seen`}, n)...)
		if 11+4+2*n-1 > api.MaxTokens {
			doesNot(t, api.ErrFull, api.Course{}, x)
		} else {
			does(t, api.Course{}, x, api.Course{Flags: api.Seen}, true)
		}
	}
}

// P7.4: a course with a Fault stays as it is.
func TestFaultStays(t *testing.T) {
	for _, fault := range []api.Errno{api.ErrClash, api.ErrFull, api.ErrSize, -1, math.MaxInt, math.MinInt} {
		for _, c := range []api.Course{{}, {Flags: 3}, {Asked: true}, asked(boxes(6)...), {Actions: []api.Action{action(api.Reject, "a"), {Kind: api.Keep, Flags: 5}}, Flags: 7}} {
			c.Fault = fault
			for _, x := range rightCommands() {
				does(t, c, x, c, false)
			}
			ends(t, c, api.Action{Kind: api.Keep})
		}
	}
}

// P7.4: Stop and Require.
func TestStopRequire(t *testing.T) {
	for _, c := range []api.Course{{}, {Flags: 3}, {Asked: true, Flags: 31}, asked(boxes(6)...), {Actions: []api.Action{action(api.Reject, "a"), {Kind: api.Keep, Flags: 5}}, Flags: 7}} {
		does(t, c, command(api.Stop), c, false)
		does(t, c, command(api.Require, "reject"), c, true)
		does(t, c, command(api.Require, "envelope", "imap4flags", "fileinto", "fileinto"), c, true)
	}
}

// P7.4: SetFlag and AddFlag.
func TestFlags(t *testing.T) {
	for _, names := range [][]string{{`\Seen`}, {`\Answered`}, {`\Flagged`}, {`\Deleted`}, {`\Draft`}, {`\Seen`, `\Seen`}, {`\Draft`, `\Seen`}, {`\Seen`, `\Answered`, `\Flagged`, `\Deleted`, `\Draft`}} {
		flags, _ := rule.Flags(names)
		for before := range allFlags + 1 {
			for _, c := range []api.Course{{Flags: before}, {Flags: before, Asked: true, Actions: []api.Action{{Kind: api.Keep, Flags: before}, action(api.Discard, "")}}, {Flags: before, Actions: []api.Action{action(api.Reject, "a")}}} {
				set, added := c, c
				set.Flags, added.Flags = flags, before|flags
				does(t, c, command(api.SetFlag, names...), set, true)
				does(t, c, command(api.AddFlag, names...), added, true)
			}
		}
	}
}

// P7.4: what each command asks for.
func TestActions(t *testing.T) {
	for _, w := range []struct {
		x    api.Command
		want api.Action
	}{
		{command(api.Keep), api.Action{Kind: api.Keep, Flags: 21}},
		{command(api.Discard), api.Action{Kind: api.Discard}},
		{command(api.FileInto, "work"), api.Action{Kind: api.FileInto, Text: "work", Flags: 21}},
		{command(api.FileInto, "INBOX"), api.Action{Kind: api.FileInto, Text: "INBOX", Flags: 21}},
		{command(api.Redirect, "a@b"), api.Action{Kind: api.Redirect, Text: "a@b"}},
		{command(api.Redirect, ` "Ann, B" C. <A.b@C.d>	`), api.Action{Kind: api.Redirect, Text: "A.b@C.d"}},
		{command(api.Reject, "no\r\n"), api.Action{Kind: api.Reject, Text: "no\r\n"}},
		{command(api.Reject, ""), api.Action{Kind: api.Reject}},
		{command(api.Reject, text(5000)), api.Action{Kind: api.Reject, Text: text(5000)}},
	} {
		c := api.Course{Flags: 21}
		does(t, c, w.x, api.Course{Actions: []api.Action{w.want}, Flags: 21, Asked: true}, true)
		// Behind all, whether something was asked or not.
		c.Actions = []api.Action{action(api.Discard, "other")}
		want := api.Course{Actions: []api.Action{c.Actions[0], w.want}, Flags: 21, Asked: true}
		does(t, c, w.x, want, true)
		c.Asked = true
		does(t, c, w.x, want, true)
	}
}

// P7.4: which actions may not be asked for together.
func TestClash(t *testing.T) {
	clashes := map[[2]int]bool{ // what is there, what is asked for
		{api.Reject, api.Reject}: true, {api.Keep, api.Reject}: true, {api.FileInto, api.Reject}: true, {api.Redirect, api.Reject}: true,
		{api.Reject, api.Keep}: true, {api.Reject, api.FileInto}: true, {api.Reject, api.Redirect}: true,
	}
	for _, x := range rightCommands() {
		if slices.Contains([]int{api.Require, api.SetFlag, api.AddFlag, api.Stop}, x.Kind) {
			continue
		}
		for _, kind := range []int{api.Keep, api.Discard, api.FileInto, api.Redirect, api.Reject, 0, api.If, api.Stop, -1} {
			for _, l := range [][]api.Action{{action(kind, "old")}, {action(api.Discard, "o"), action(kind, "old")}, {action(kind, "old"), action(api.Discard, "o")}, {action(kind, "new")}} {
				if x.Kind == kind && l[0].Text == "new" && kind != api.Reject {
					continue
				}
				for _, c := range []api.Course{{Actions: l}, {Actions: l, Asked: true, Flags: 9}} {
					want := c
					want.Asked = true
					if clashes[[2]int{kind, x.Kind}] {
						want.Fault = api.ErrClash
						does(t, c, x, want, false)
						ends(t, want, api.Action{Kind: api.Keep})
						continue
					}
					got, on, e := judge.Do(c, x)
					if e != api.OK || !on || got.Fault != api.OK || !got.Asked || len(got.Actions) != len(l)+1 || !slices.Equal(got.Actions[:len(l)], l) || got.Actions[len(l)].Kind != x.Kind {
						t.Errorf("Do(%v, %v) = %v, %v, %v", c, x, got, on, e)
					}
				}
			}
		}
	}
}

// P7.4: one of the same Kind and Text, whatever its Flags: nothing but that something was asked.
func TestSameAction(t *testing.T) {
	for _, w := range []struct {
		x     api.Command
		there api.Action
	}{
		{command(api.Keep), action(api.Keep, "")}, {command(api.Discard), action(api.Discard, "")}, {command(api.FileInto, "a"), action(api.FileInto, "a")}, {command(api.Redirect, "A <a@b>"), action(api.Redirect, "a@b")},
	} {
		for _, flags := range []int{0, 1, 9} {
			w.there.Flags = flags
			for _, l := range [][]api.Action{{w.there}, {w.there, action(api.Discard, "x")}, {action(api.FileInto, "z"), w.there}, {w.there, w.there}, append(boxes(6)[1:], w.there)} {
				does(t, api.Course{Actions: l, Flags: 1}, w.x, api.Course{Actions: l, Flags: 1, Asked: true}, true)
				does(t, api.Course{Actions: l, Flags: 9, Asked: true}, w.x, api.Course{Actions: l, Flags: 9, Asked: true}, true)
			}
		}
		// Another Text, or another Kind, is another action.
		for _, other := range []api.Action{action(w.there.Kind, "other"), action(w.there.Kind, "A"), action(0, w.there.Text), action(api.Stop, w.there.Text)} {
			got, on, e := judge.Do(asked(other), w.x)
			if len(got.Actions) != 2 || !on || e != api.OK {
				t.Errorf("Do(%v, %v) = %v, %v, %v", other, w.x, got, on, e)
			}
		}
	}
}

// P7.4: as many actions as may be, and one more.
func TestFullCourse(t *testing.T) {
	for n := range api.MaxActions + 1 {
		c := api.Course{Actions: boxes(n), Flags: 2}
		want := c
		want.Asked = true
		if n == api.MaxActions {
			want.Fault = api.ErrFull
			ends(t, want, api.Action{Kind: api.Keep})
		} else {
			want.Actions = append(boxes(n), api.Action{Kind: api.FileInto, Text: "z", Flags: 2})
		}
		does(t, c, command(api.FileInto, "z"), want, n < api.MaxActions)
	}
	full := asked(boxes(6)...)
	none := full
	none.Fault = api.ErrFull
	for _, x := range []api.Command{command(api.Keep), command(api.Discard), command(api.Redirect, "a@b"), command(api.FileInto, "A")} {
		does(t, full, x, none, false)
	}
	// A clash comes first, then one that is there.
	none.Fault = api.ErrClash
	does(t, full, command(api.Reject, "no"), none, false)
	does(t, full, command(api.FileInto, "f"), full, true)
	rejected := asked(slices.Repeat([]api.Action{action(api.Reject, "a")}, 6)...)
	none = rejected
	none.Fault = api.ErrClash
	does(t, rejected, command(api.Keep), none, false)
	does(t, rejected, command(api.Reject, "a"), none, false)
	none.Fault = api.ErrFull
	does(t, rejected, command(api.Discard), none, false)
}

// P7.5: what is done at last.
func TestEnd(t *testing.T) {
	some := []api.Action{{Kind: api.FileInto, Text: "a", Flags: 7}, action(api.Discard, ""), {Kind: -1, Text: "x", Flags: -1}}
	ends(t, api.Course{}, api.Action{Kind: api.Keep})
	ends(t, api.Course{Flags: 31}, api.Action{Kind: api.Keep, Flags: 31})
	ends(t, api.Course{Flags: 5, Actions: some}, api.Action{Kind: api.Keep, Flags: 5})
	ends(t, api.Course{Flags: 5, Actions: some, Asked: true}, some...)
	ends(t, asked(boxes(6)...), boxes(6)...)
	ends(t, asked(action(api.Discard, "")), action(api.Discard, ""))
	ends(t, api.Course{Asked: true, Flags: 3})
	for _, fault := range []api.Errno{api.ErrClash, api.ErrFull, 1, -1, math.MinInt} {
		for _, yes := range []bool{false, true} {
			ends(t, api.Course{Flags: 5, Fault: fault, Asked: yes}, api.Action{Kind: api.Keep})
			ends(t, api.Course{Flags: 5, Fault: fault, Asked: yes, Actions: some}, api.Action{Kind: api.Keep})
		}
	}
}
