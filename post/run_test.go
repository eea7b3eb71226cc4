package post_test

import (
	"slices"
	"strings"
	"testing"

	"postroom/api"
	"postroom/post"
)

// refused: Run answers this error, and nothing else.
func refused(t *testing.T, users []api.User, l []api.Act, want api.Errno) {
	t.Helper()
	if o, e := post.Run(users, l); e != want || text(o) != text(api.Outcome{}) {
		t.Errorf("Run(%s, %d acts) = %s, %d; want nothing, %d", short(users), len(l), short(o), e, want)
	}
}

// named users, without scripts.
func named(l ...string) []api.User {
	var users []api.User
	for _, s := range l {
		users = append(users, api.User{Local: s})
	}
	return users
}

// tooMany acts; the first one may not be either.
func tooMany() []api.Act { return slices.Repeat([]api.Act{{Kind: 9}}, api.MaxSteps+1) }

// P13.6: no users, or too many, ahead of what is wrong with them.
func TestNumbersOfUsers(t *testing.T) {
	for _, l := range [][]api.Act{nil, {sync}, {{Kind: 9}}, tooMany()} {
		refused(t, nil, l, api.ErrSize)
		refused(t, []api.User{}, l, api.ErrSize)
		refused(t, named("a", "b", "c", "d"), l, api.ErrSize)
		refused(t, named("a b", "a", "a", "d"), l, api.ErrSize)
		refused(t, named(make([]string, 1000)...), l, api.ErrSize)
	}
	for n := 1; n <= api.MaxUsers; n++ {
		run(t, named("a", "b", "c")[:n])
	}
}

// P13.6: Locals that may not stand in an address with the Domain x.
func TestLocals(t *testing.T) {
	most := strings.Repeat("l", api.MaxPattern-len("@x"))
	for _, s := range []string{"", " ", "a b", "a@", "@", "a@x", ".", "a.", ".a", "a..b", "<a>", "a,", "\"a\"", "a\r\n", "\xff", "\x00", most + "l", strings.Repeat("l", 1<<20)} {
		for _, l := range [][]api.Act{nil, {{Kind: 9}}, tooMany()} {
			refused(t, named(s), l, api.ErrForm)
			refused(t, named("a", s), l, api.ErrForm)
			refused(t, named("a", "b", s), l, api.ErrForm)
			refused(t, named(s, "a", "a"), l, api.ErrForm)
			refused(t, named(s, s), l, api.ErrForm)
			refused(t, []api.User{{Local: s, Script: "keep"}}, l, api.ErrForm)
		}
	}
	for _, s := range []string{"a", "A", "a.b", "a-b", "0", most} {
		run(t, named(s))
	}
}

// P13.6: Locals that are there twice, byte by byte.
func TestTwice(t *testing.T) {
	for _, l := range [][]api.Act{nil, {{Kind: 9}}, tooMany()} {
		refused(t, named("a", "a"), l, api.ErrTwice)
		refused(t, named("a", "b", "a"), l, api.ErrTwice)
		refused(t, named("b", "a", "a"), l, api.ErrTwice)
		refused(t, named("a", "a", "a b"), l, api.ErrTwice)
		refused(t, []api.User{{Local: "a"}, {Local: "a", Script: "keep"}}, l, api.ErrTwice)
	}
	run(t, named("a", "A", "a.a"))
}

// P13.6: scripts that can't be read, user by user.
func TestScripts(t *testing.T) {
	for script, want := range map[string]api.Errno{
		"keep": api.ErrShort, `fileinto "a";`: api.ErrRight, "stop": api.ErrShort, "%": api.ErrForm, `redirect "a";`: api.ErrForm, "}": api.ErrForm,
		strings.Repeat(" ", api.MaxScript+1): api.ErrSize,
	} {
		bad := api.User{Local: "a", Script: script}
		for _, l := range [][]api.Act{nil, {{Kind: 9}}, tooMany()} {
			refused(t, []api.User{bad}, l, want)
			refused(t, []api.User{ann, bob, bad}, l, want)
			refused(t, []api.User{bad, {Local: "a b"}}, l, want)
			refused(t, []api.User{bad, {Local: "a"}}, l, want)
			refused(t, []api.User{bad, {Local: "b", Script: "keep keep"}}, l, want)
		}
	}
	run(t, []api.User{{Local: "a", Script: " # nothing\r\n"}})
	run(t, []api.User{{Local: "a", Script: strings.Repeat(" ", api.MaxScript)}})
}

// P13.6: too many acts, ahead of the first one that may not be; that one is told, even behind others that are done.
func TestNumbersOfActs(t *testing.T) {
	refused(t, three(), tooMany(), api.ErrSize)
	refused(t, three(), slices.Repeat([]api.Act{sync}, api.MaxSteps+1), api.ErrSize)
	most := slices.Repeat([]api.Act{sync}, api.MaxSteps)
	run(t, three(), most...)
	most[api.MaxSteps-1] = crash(-1)
	refused(t, three(), most, api.ErrRange)
	most[api.MaxSteps-2] = api.Act{Kind: 6}
	refused(t, three(), most, api.ErrKind)
	most[17] = api.Act{Kind: api.Sync, Data: "x"}
	refused(t, three(), most, api.ErrForm)
	most[3] = raw(0, strings.Repeat("x", api.MaxHeld+1))
	refused(t, three(), most, api.ErrSize)
}

// P13.6: the outcome: each of its parts, user by user and connection by connection.
func TestOutcome(t *testing.T) {
	o := run(t, three(), order(1, create("work")), sync, letter(1, "s: t", "ann", "bob", "cid"), feed(2, "NOOP", "x"), order(2, create("INBOX")), order(0, create("new")))
	want := api.Outcome{
		Up:     true,
		Codes:  [][]int{nil, fresh(3), {250, 500}},
		Orders: [][]api.Errno{nil, {api.OK}, {api.ErrTwice}},
		States: []api.State{boxes(inbox()), boxes(inbox(), filled("work")), boxes(inbox())},
		Waits:  3,
	}
	is(t, "three batches wait", o, want)
	o = run(t, three(), order(1, create("work")), sync, letter(1, "s: t", "ann", "bob", "cid"), feed(2, "NOOP", "x"), order(2, create("INBOX")), order(0, create("new")), sync)
	want.Codes[1], want.Orders[0], want.Waits = fresh(3, 250, 250, 250), []api.Errno{api.OK}, 0
	want.States = []api.State{boxes(inbox(whole("s: t")), filled("new")), boxes(inbox(), filled("work", whole("s: t"))), boxes(inbox())}
	is(t, "none waits", o, want)
}
