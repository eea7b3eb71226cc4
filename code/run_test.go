package code_test

import (
	"slices"
	"strings"
	"testing"

	"postroom/api"
	"postroom/code"
	"postroom/judge"
)

// sameCourse: lists without elements are the same, be they nil or not.
func sameCourse(a, b api.Course) bool {
	return slices.Equal(a.Actions, b.Actions) && a.Flags == b.Flags && a.Asked == b.Asked && a.Fault == b.Fault
}

// runs: the course of ops, and how many are done.
func runs(t *testing.T, l []api.Op, x api.Letter, want api.Course, done int) {
	t.Helper()
	if got, n, e := code.Run(l, x); !sameCourse(got, want) || n != done || e != api.OK {
		t.Errorf("Run(%s, %s) = %s, %d, %v; want %s, %d", shapeOf(l), brief(x), brief(got), n, e, brief(want), done)
	}
}

// runsNot: Run tells this error, and nothing else.
func runsNot(t *testing.T, want api.Errno, l []api.Op, x api.Letter) {
	t.Helper()
	if got, n, e := code.Run(l, x); !sameCourse(got, api.Course{}) || n != 0 || e != want {
		t.Errorf("Run(%s, %s) = %s, %d, %v; want %v", brief(l), brief(x), brief(got), n, e, want)
	}
}

// into: the course that has filed a letter into these boxes.
func into(names string) api.Course {
	var c api.Course
	for _, n := range strings.Fields(names) {
		c.Actions, c.Asked = append(c.Actions, api.Action{Kind: api.FileInto, Text: n}), true
	}
	return c
}

// file: an op that files a letter into a box.
func file(name string) api.Op { return do(api.FileInto, name) }

// P8.5: op by op, by the jumps.
func TestRun(t *testing.T) {
	yes, no := ask(api.True), ask(api.False)
	a, b, c := file("a"), file("b"), file("c")
	for _, w := range []struct {
		ops   []api.Op
		boxes string
		done  int
	}{
		{nil, "", 0},
		{[]api.Op{}, "", 0},
		{[]api.Op{a}, "a", 1},
		{[]api.Op{a, b, a, c}, "a b c", 4},
		{[]api.Op{yes, no, flip()}, "", 3},
		// Ahead of any Ask it is not true.
		{[]api.Op{jump(api.JumpTrue, 2), a, b}, "a b", 3},
		{[]api.Op{jump(api.JumpFalse, 2), a, b}, "b", 2},
		{[]api.Op{flip(), jump(api.JumpTrue, 3), a, b}, "b", 3},
		{[]api.Op{flip(), jump(api.JumpFalse, 3), a, b}, "a b", 4},
		{[]api.Op{flip(), flip(), jump(api.JumpFalse, 4), a, b}, "b", 4},
		{[]api.Op{yes, jump(api.JumpTrue, 3), a, b}, "b", 3},
		{[]api.Op{yes, jump(api.JumpFalse, 3), a, b}, "a b", 4},
		{[]api.Op{no, jump(api.JumpTrue, 3), a, b}, "a b", 4},
		{[]api.Op{no, jump(api.JumpFalse, 3), a, b}, "b", 3},
		{[]api.Op{yes, flip(), jump(api.JumpTrue, 4), a, b}, "a b", 5},
		{[]api.Op{no, flip(), jump(api.JumpTrue, 4), a, b}, "b", 4},
		// A Jump goes in either case.
		{[]api.Op{jump(api.Jump, 2), a, b}, "b", 2},
		{[]api.Op{yes, jump(api.Jump, 3), a, b}, "b", 3},
		{[]api.Op{no, jump(api.Jump, 3), a, b}, "b", 3},
		{[]api.Op{jump(api.Jump, 1), a}, "a", 2},
		{[]api.Op{a, jump(api.Jump, 4), b, c}, "a", 2},
		{[]api.Op{a, jump(api.JumpFalse, 4), b, c}, "a", 2},
		{[]api.Op{a, flip(), jump(api.JumpTrue, 5), b, c}, "a", 3},
		{[]api.Op{jump(api.Jump, 2), jump(api.Jump, 3), jump(api.Jump, 4), a, b}, "b", 3},
		// The last Ask tells; neither jumps nor Dos change it.
		{[]api.Op{no, yes, jump(api.JumpTrue, 4), a, b}, "b", 4},
		{[]api.Op{yes, no, jump(api.JumpTrue, 4), a, b}, "a b", 5},
		{[]api.Op{yes, a, jump(api.JumpTrue, 4), b, jump(api.JumpTrue, 6), b, jump(api.JumpFalse, 8), c}, "a c", 6},
		{[]api.Op{yes, jump(api.JumpTrue, 2), jump(api.JumpTrue, 4), a, b}, "b", 4},
		{[]api.Op{no, a, b, jump(api.JumpFalse, 5), c}, "a b", 4},
		{[]api.Op{flip(), no, flip(), flip(), jump(api.JumpFalse, 6), a, b}, "b", 6},
		// A Require does nothing, but is done.
		{[]api.Op{do(api.Require, "reject"), a, do(api.Require, "envelope"), b}, "a b", 4},
		// What does not go on was the last one.
		{[]api.Op{do(api.Stop)}, "", 1},
		{[]api.Op{a, do(api.Stop), b, c}, "a", 2},
		{[]api.Op{a, do(api.Stop), jump(api.Jump, 3), c}, "a", 2},
		{[]api.Op{jump(api.Jump, 2), do(api.Stop), b, c}, "b c", 3},
	} {
		runs(t, w.ops, letterOf("\r\n"), into(w.boxes), w.done)
	}
	runs(t, slices.Repeat([]api.Op{flip()}, api.MaxCode), letterOf("\r\n"), api.Course{}, api.MaxCode)
	runs(t, slices.Repeat([]api.Op{do(api.Keep)}, api.MaxCode), letterOf("\r\n"), api.Course{Actions: []api.Action{{Kind: api.Keep}}, Asked: true}, api.MaxCode)
}

// P8.5: what an Ask tells of a letter.
func TestRunAsk(t *testing.T) {
	l := letterOf("Subject: work\r\nTo: Ann <ann@y.org>, x@z\r\n\r\nhello")
	for s, want := range map[string]bool{
		`header "subject" "WORK"`:                true,
		`header "subject" "wor"`:                 false,
		`header :contains "subject" "wor"`:       true,
		`header :matches "x" "*"`:                false,
		`address :domain "to" "z"`:               true,
		`address :localpart "to" "joe"`:          false,
		`envelope "from" "joe@z"`:                true,
		`envelope "to" "joe@z"`:                  false,
		`exists ["to", "Subject"]`:               true,
		`exists ["to", "cc"]`:                    false,
		`size :over 20`:                          true,
		`size :under 20`:                         false,
		`not exists "cc"`:                        true,
		`allof (exists "to", exists "cc")`:       false,
		`anyof (exists "cc", exists "to")`:       true,
		`not anyof (exists "cc", size :over 1M)`: true,
	} {
		ops := append(compile(t, "if "+s+" {}"), file("a"))
		course, _, e := code.Run(ops, l)
		if e != api.OK || !sameCourse(course, into("a")) {
			t.Errorf("%s: %v, %v", s, course, e)
		}
		// The jump to the place behind the last op leaves nothing to do.
		ops[len(ops)-2].To++
		boxes := ""
		if want {
			boxes = "a"
		}
		if course, _, e := code.Run(ops, l); e != api.OK || !sameCourse(course, into(boxes)) {
			t.Errorf("%s: %v, %v; want %v", s, course, e, into(boxes))
		}
	}
}

// P8.5: what comes of Dos: flags, actions and faults.
func TestRunDo(t *testing.T) {
	keep := api.Action{Kind: api.Keep}
	six := into("a b c d e f")
	full, clash := six, into("a")
	full.Fault, clash.Fault = api.ErrFull, api.ErrClash
	files := []api.Op{file("a"), file("b"), file("c"), file("d"), file("e"), file("f")}
	for _, w := range []struct {
		ops  []api.Op
		want api.Course
		done int
	}{
		{[]api.Op{do(api.Keep)}, api.Course{Actions: []api.Action{keep}, Asked: true}, 1},
		{[]api.Op{do(api.Discard), do(api.Keep), do(api.Keep)}, api.Course{Actions: []api.Action{{Kind: api.Discard}, keep}, Asked: true}, 3},
		{[]api.Op{do(api.SetFlag, `\Seen`), do(api.AddFlag, `\Draft`)}, api.Course{Flags: 17}, 2},
		{[]api.Op{do(api.AddFlag, `\Seen`, `\Flagged`), do(api.Keep), do(api.SetFlag, `\Draft`), file("a")}, api.Course{Actions: []api.Action{{Kind: api.Keep, Flags: 5}, {Kind: api.FileInto, Text: "a", Flags: 16}}, Flags: 16, Asked: true}, 4},
		{[]api.Op{do(api.Redirect, "Ann <a@b>"), do(api.Redirect, "a@b")}, api.Course{Actions: []api.Action{{Kind: api.Redirect, Text: "a@b"}}, Asked: true}, 2},
		{[]api.Op{do(api.Reject, "no"), do(api.Discard)}, api.Course{Actions: []api.Action{{Kind: api.Reject, Text: "no"}, {Kind: api.Discard}}, Asked: true}, 2},
		{[]api.Op{file("a"), do(api.Reject, "no"), file("b"), flip()}, clash, 2},
		{[]api.Op{file("a"), jump(api.JumpFalse, 3), flip(), do(api.Reject, "no"), do(api.SetFlag, `\Seen`)}, clash, 3},
		{files, six, 6},
		{append(slices.Clone(files), file("a"), do(api.AddFlag, `\Seen`)), api.Course{Actions: six.Actions, Flags: 1, Asked: true}, 8},
		{append(slices.Clone(files), do(api.Keep), do(api.AddFlag, `\Seen`)), full, 7},
	} {
		runs(t, w.ops, letterOf("\r\n"), w.want, w.done)
	}
}

// P8.5: what is refused of the letter, whether anything is asked of it or not; Check comes first (see checks).
func TestRunRefuses(t *testing.T) {
	long := api.Address{Local: text(50), Domain: text(50)}
	for _, l := range [][]api.Op{nil, {}, {do(api.Stop)}, {flip(), ask(api.True)}, {do(api.Keep), do(api.Reject, "no")}, {jump(api.Jump, 2), ask(api.True)}} {
		for s, e := range map[string]api.Errno{
			"": api.ErrShort, "a: b\r\n": api.ErrShort, "a: b\n\n": api.ErrShort, "a\r\n\r\n": api.ErrForm, strings.Repeat("a: b\r\n", 31) + "\r\n": api.ErrFull, "\r\n" + text(1999): api.ErrSize,
		} {
			runsNot(t, e, l, letterOf(s))
			runsNot(t, api.ErrSize, l, api.Letter{From: long, To: ann, Text: s})
			runsNot(t, api.ErrForm, l, api.Letter{From: joe, Text: s})
		}
		runsNot(t, api.ErrForm, l, api.Letter{})
		runsNot(t, api.ErrForm, l, api.Letter{To: long, Text: "\r\n"})
		runsNot(t, api.ErrSize, l, api.Letter{From: long, Text: "\r\n"})
		runsNot(t, api.ErrSize, l, api.Letter{From: joe, To: long, Text: "\r\n"})
	}
	runs(t, []api.Op{file("a")}, letterOf("\r\n"+text(1998)), into("a"), 1)
}

// P8.4, P8.5: a command of an allowed script that is too long beside a Require of all extensions is no op that may be.
func TestRunLong(t *testing.T) {
	cs := []api.Command{command(api.Require, "imap4flags"), command(api.SetFlag, slices.Repeat([]string{`\Draft`}, 196)...)}
	if c, e := judge.Judge(cs, letterOf("\r\n")); e != api.OK || c.Flags != api.Draft {
		t.Fatalf("Judge: %v, %v", c, e)
	}
	l, e := code.Compile(cs)
	if e != api.OK || shapeOf(l) != "do1 do8" {
		t.Fatalf("Compile: %s, %v", shapeOf(l), e)
	}
	checks(t, api.ErrFull, l...)
}
