package code_test

import (
	"math"
	"slices"
	"testing"

	"postroom/api"
	"postroom/code"
)

// checks that Check tells this error, and that Run tells the same, of a letter that may not be, too.
func checks(t *testing.T, want api.Errno, l ...api.Op) {
	t.Helper()
	if e := code.Check(l); e != want {
		t.Errorf("Check(%s) = %v; want %v", brief(l), e, want)
	}
	if want != api.OK {
		runsNot(t, want, l, letterOf("\r\n"))
		runsNot(t, want, l, letterOf(""))
		runsNot(t, want, l, api.Letter{})
	}
}

// header: a test that compares so many keys.
func header(keys int) api.Test {
	return api.Test{Kind: api.Header, Match: api.Is, Names: []string{"a"}, Keys: slices.Repeat([]string{"b"}, keys)}
}

// P8.4: ops that may be.
func TestCheckRight(t *testing.T) {
	checks(t, api.OK)
	checks(t, api.OK, []api.Op{}...)
	for _, o := range []api.Op{
		flip(), ask(api.True), ask(api.False), jump(api.Jump, 1), jump(api.JumpTrue, 1), jump(api.JumpFalse, 1), do(api.Keep), do(api.Discard), do(api.Stop),
		do(api.FileInto, "a"), do(api.Reject, ""), do(api.Reject, text(5000)), do(api.Redirect, "a@b"), do(api.SetFlag, `\Seen`), do(api.AddFlag, `\Draft`, `\Draft`), do(api.Require, "reject"), do(api.Require, "envelope", "fileinto", "imap4flags", "reject"),
		{Kind: api.Ask, Test: header(1)}, {Kind: api.Ask, Test: api.Test{Kind: api.Size, Limit: api.MaxNumber, Over: true}}, {Kind: api.Ask, Test: api.Test{Kind: api.Exists, Names: []string{text(100)}}},
		{Kind: api.Ask, Test: api.Test{Kind: api.Addr, Match: 3, Part: 3, Names: []string{""}, Keys: []string{text(100)}}}, {Kind: api.Ask, Test: api.Test{Kind: api.Envelope, Match: 2, Part: 2, Names: []string{"to", "from"}, Keys: []string{""}}},
	} {
		checks(t, api.OK, o)
		if o.To > 0 {
			continue
		}
		checks(t, api.OK, o, o)
		checks(t, api.OK, jump(api.JumpTrue, 1), o, jump(api.Jump, 4), o)
	}
}

// P8.4: how many there may be.
func TestCheckFull(t *testing.T) {
	for _, o := range []api.Op{flip(), do(api.Keep), ask(api.True), jump(api.Jump, api.MaxCode)} {
		checks(t, api.OK, slices.Repeat([]api.Op{o}, api.MaxCode)...)
		checks(t, api.ErrFull, slices.Repeat([]api.Op{o}, api.MaxCode+1)...)
	}
	// Ahead of all else.
	checks(t, api.ErrFull, slices.Repeat([]api.Op{{Kind: 7, To: -1}}, api.MaxCode+1)...)
	checks(t, api.ErrFull, make([]api.Op, 1<<16)...)
	checks(t, api.ErrKind, make([]api.Op, api.MaxCode)...)
}

// P8.4: no such Kind.
func TestCheckKind(t *testing.T) {
	for _, kind := range []int{0, -1, 7, 8, math.MinInt, math.MaxInt, 1 << 32, 1<<32 + 1} {
		checks(t, api.ErrKind, api.Op{Kind: kind})
		checks(t, api.ErrKind, flip(), api.Op{Kind: kind})
		checks(t, api.ErrKind, api.Op{Kind: kind, To: -1, Test: api.Test{Kind: api.Not}, What: api.Command{Kind: api.If}})
	}
}

// P8.4: where jumps may go.
func TestCheckRange(t *testing.T) {
	for _, kind := range []int{api.JumpTrue, api.JumpFalse, api.Jump} {
		for n := 1; n < 6; n++ {
			for at := range n {
				for to := -2; to < n+3; to++ {
					l := slices.Repeat([]api.Op{flip()}, n)
					l[at] = jump(kind, to)
					want := api.ErrRange
					if at < to && to <= n {
						want = api.OK
					}
					checks(t, want, l...)
				}
			}
		}
		for _, to := range []int{math.MinInt, math.MaxInt, 1 << 32, 1<<32 + 1, -1 << 32} {
			checks(t, api.ErrRange, flip(), jump(kind, to))
		}
		// Ahead of what it has and should not have.
		checks(t, api.ErrRange, api.Op{Kind: kind, To: 2, Test: api.Test{Kind: api.True}})
		checks(t, api.ErrRange, api.Op{Kind: kind, What: command(api.Keep)})
	}
}

// P8.4: ops that have what their kind has not.
func TestCheckForm(t *testing.T) {
	for _, o := range []api.Op{flip(), ask(api.True), do(api.Keep), jump(api.JumpTrue, 1), jump(api.JumpFalse, 1), jump(api.Jump, 1)} {
		if o.To == 0 {
			for _, to := range []int{1, -1, math.MaxInt, math.MinInt, 1 << 32} {
				x := o
				x.To = to
				checks(t, api.ErrForm, x)
				checks(t, api.ErrForm, x, flip())
			}
		}
		for _, test := range someTests() {
			x := o
			if x.Test = test; o.Kind != api.Ask {
				checks(t, api.ErrForm, x)
			}
		}
		for _, c := range someCommands() {
			x := o
			if x.What = c; o.Kind != api.Do {
				checks(t, api.ErrForm, x)
			}
		}
	}
}

// someTests: each with just one thing that no test at all has not.
func someTests() []api.Test {
	return []api.Test{
		{Kind: api.True}, {Kind: -1}, {Kind: 99}, {Match: 1}, {Match: -1}, {Part: 1}, {Names: []string{""}}, {Keys: []string{""}}, {Over: true}, {Limit: 1}, {Limit: -1}, {Tests: []api.Test{{}}},
	}
}

// someCommands: each with just one thing that no command at all has not.
func someCommands() []api.Command {
	out := []api.Command{{Kind: api.Keep}, {Kind: api.If}, {Kind: -1}, {Texts: []string{""}}, {Then: []api.Command{{}}}, {Else: []api.Command{{}}}}
	for _, x := range someTests() {
		out = append(out, api.Command{Test: x})
	}
	return out
}

// P8.4: tests that have others in them, and Ifs, are cut into ops, not asked or done.
func TestCheckWhole(t *testing.T) {
	yes := api.Test{Kind: api.True}
	for _, kind := range []int{api.Not, api.AllOf, api.AnyOf} {
		for _, x := range []api.Test{{Kind: kind}, {Kind: kind, Tests: []api.Test{yes}}, {Kind: kind, Tests: []api.Test{{}}}, {Kind: kind, Match: 9}} {
			checks(t, api.ErrForm, api.Op{Kind: api.Ask, Test: x})
		}
	}
	for _, c := range []api.Command{{Kind: api.If}, {Kind: api.If, Test: yes}, {Kind: api.If, Test: yes, Then: []api.Command{command(api.Keep)}}, {Kind: api.If, Test: api.Test{Kind: 99}}, {Kind: api.If, Texts: []string{"a"}}} {
		checks(t, api.ErrForm, api.Op{Kind: api.Do, What: c})
	}
}

// P8.4: what is refused of an Ask's Test.
func TestCheckAsk(t *testing.T) {
	yes := api.Test{Kind: api.True}
	for e, l := range map[api.Errno][]api.Test{
		api.ErrKind: {{}, {Kind: -1}, {Kind: 11}, {Kind: math.MaxInt}, {Match: 1, Limit: 1}},
		api.ErrForm: {{Kind: api.True, Match: 1}, {Kind: api.False, Tests: []api.Test{yes}}, {Kind: api.Exists}, {Kind: api.Header, Match: 1, Names: []string{"a"}}, {Kind: api.Header, Match: 4, Names: []string{"a"}, Keys: []string{"a"}},
			{Kind: api.Addr, Match: 1, Names: []string{"a"}, Keys: []string{"a"}}, {Kind: api.Size, Limit: -1}, {Kind: api.Size, Limit: api.MaxNumber + 1}, {Kind: api.Size, Keys: []string{""}}},
		api.ErrNone: {{Kind: api.Envelope, Match: 1, Part: 1, Names: []string{"to", "cc"}, Keys: []string{"a"}}},
		api.ErrSize: {{Kind: api.Exists, Names: []string{"a", text(101)}}, {Kind: api.Header, Match: 1, Names: []string{"a"}, Keys: []string{text(101)}}},
	} {
		for _, x := range l {
			checks(t, e, api.Op{Kind: api.Ask, Test: x})
			checks(t, e, flip(), api.Op{Kind: api.Ask, Test: x}, flip())
			checks(t, api.ErrForm, api.Op{Kind: api.Ask, Test: x, To: 1})
			checks(t, api.ErrForm, api.Op{Kind: api.Ask, Test: x, What: command(api.Keep)})
		}
	}
}

// P8.4: what is refused of a Do's What.
func TestCheckDo(t *testing.T) {
	for e, l := range map[api.Errno][]api.Command{
		api.ErrKind: {{}, {Kind: -1}, {Kind: 11}, {Kind: math.MinInt}, {Texts: []string{"a"}}},
		api.ErrForm: {command(api.Keep, "a"), command(api.FileInto), command(api.FileInto, "a", "b"), command(api.Require), {Kind: api.Stop, Test: api.Test{Kind: api.True}}, {Kind: api.Keep, Then: []api.Command{command(api.Keep)}},
			{Kind: api.Keep, Else: []api.Command{command(api.Keep)}}, command(api.FileInto, "a b"), command(api.Redirect, "a"), command(api.Redirect, "a@b, c@d"), command(api.Redirect, text(2001))},
		api.ErrNone: {command(api.Require, "none"), command(api.Require, "reject", "Reject"), command(api.SetFlag, "Seen"), command(api.AddFlag, `\Seen`, "")},
		api.ErrSize: {command(api.FileInto, ""), command(api.FileInto, text(13))},
	} {
		for _, x := range l {
			checks(t, e, api.Op{Kind: api.Do, What: x})
			checks(t, e, do(api.Stop), api.Op{Kind: api.Do, What: x})
			checks(t, api.ErrForm, api.Op{Kind: api.Do, What: x, To: -1})
			checks(t, api.ErrForm, api.Op{Kind: api.Do, What: x, Test: api.Test{Kind: api.True}})
		}
	}
}

// P8.4: as many tokens as can be, with a Require of all extensions beside it: that has 11 of them.
func TestCheckLong(t *testing.T) {
	for n := 180; n < 205; n++ {
		// An If with a header has 8 tokens and those of the keys, a setflag 4 and those of the flags.
		ofTest, ofFlags := api.OK, api.OK
		if 11+8+2*n-1 > api.MaxTokens {
			ofTest = api.ErrFull
		}
		if 11+4+2*n-1 > api.MaxTokens {
			ofFlags = api.ErrFull
		}
		checks(t, ofTest, api.Op{Kind: api.Ask, Test: header(n)})
		checks(t, ofFlags, do(api.SetFlag, slices.Repeat([]string{`\Seen`}, n)...))
	}
}

// P8.4: op by op, whatever is wrong with it.
func TestCheckFirst(t *testing.T) {
	wrong := map[api.Errno]api.Op{
		api.ErrKind: {}, api.ErrRange: jump(api.Jump, 0), api.ErrForm: {Kind: api.Flip, To: 1}, api.ErrNone: do(api.Require, "none"), api.ErrSize: do(api.FileInto, ""), api.ErrFull: {Kind: api.Ask, Test: header(200)},
	}
	for e, first := range wrong {
		for _, next := range wrong {
			checks(t, e, first, next)
			checks(t, e, flip(), jump(api.JumpTrue, 5), first, do(api.Stop), next)
		}
	}
}
