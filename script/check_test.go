package script_test

import (
	"math"
	"slices"
	"testing"

	"postroom/api"
)

// one command of each kind that has no more than it must.
func oneOfEach() []api.Command {
	return []api.Command{
		plain(api.Require, "a"), when(yes), plain(api.Keep), plain(api.Discard), plain(api.FileInto, "a"), plain(api.Redirect, "a"), plain(api.Reject, "a"),
		plain(api.SetFlag, "a"), plain(api.AddFlag, "a"), plain(api.Stop),
	}
}

// testOfEach kind that has no more than it must.
func testOfEach() []api.Test {
	l, k := []string{"l"}, []string{"k"}
	return []api.Test{
		yes, {Kind: api.False}, {Kind: api.Not, Tests: []api.Test{yes}}, {Kind: api.AllOf, Tests: []api.Test{yes}}, {Kind: api.AnyOf, Tests: []api.Test{yes}},
		{Kind: api.Header, Match: api.Is, Names: l, Keys: k}, {Kind: api.Addr, Match: api.Is, Part: api.All, Names: l, Keys: k},
		{Kind: api.Envelope, Match: api.Is, Part: api.All, Names: l, Keys: k}, {Kind: api.Exists, Names: l}, {Kind: api.Size},
	}
}

// otherNumbers than those from 1 to most.
func otherNumbers(most int) []int {
	return []int{math.MinInt, -most, -2, -1, 0, most + 1, most + 2, 10 * most, 1 << 31, 1 << 32, 1<<32 + 1, math.MaxInt - 1, math.MaxInt}
}

// P5.6: there is no such kind.
func TestKinds(t *testing.T) {
	checks(t, api.OK)
	checks(t, api.OK, oneOfEach()...)
	for _, c := range oneOfEach() {
		checks(t, api.OK, c)
		checks(t, api.OK, when(yes, c))
		checks(t, api.OK, either(yes, nil, c))
	}
	for _, x := range testOfEach() {
		checksTest(t, api.OK, x)
	}
	for _, kind := range append(otherNumbers(api.Stop), 11, 12, 20) {
		checks(t, api.ErrKind, api.Command{Kind: kind})
		checks(t, api.ErrKind, plain(api.Keep), api.Command{Kind: kind})
		checks(t, api.ErrKind, when(yes, api.Command{Kind: kind}))
		checks(t, api.ErrKind, either(yes, nil, api.Command{Kind: kind}))
		checksTest(t, api.ErrKind, api.Test{Kind: kind})
		checksTest(t, api.ErrKind, api.Test{Kind: kind, Limit: -1, Match: 7, Tests: []api.Test{{}}})
		checks(t, api.ErrKind, api.Command{Kind: kind, Texts: []string{"a"}, Test: yes, Then: []api.Command{plain(api.Keep, "a")}})
	}
	checks(t, api.ErrKind, api.Command{Kind: api.If})
}

// P5.6: what a command has that it may not have, or has not.
func TestFormOfCommands(t *testing.T) {
	texts := map[int][]int{ // how many texts a command may have, of 0 to 3
		api.Require: {1, 2, 3}, api.SetFlag: {1, 2, 3}, api.AddFlag: {1, 2, 3}, api.FileInto: {1}, api.Redirect: {1}, api.Reject: {1},
		api.If: {0}, api.Keep: {0}, api.Discard: {0}, api.Stop: {0},
	}
	for _, c := range oneOfEach() {
		for n := range 4 {
			d := c
			d.Texts = make([]string, n)
			want := api.ErrForm
			if slices.Contains(texts[c.Kind], n) {
				want = api.OK
			}
			checks(t, want, d)
			checks(t, want, plain(api.Stop), when(yes, d))
		}
		if c.Kind == api.If {
			continue
		}
		d := c
		d.Then, d.Else, d.Test = []api.Command{}, []api.Command{}, api.Test{Names: []string{}, Keys: []string{}, Tests: []api.Test{}}
		checks(t, api.OK, d)
		for _, x := range append(testOfEach(), anyOfTest()...) {
			d := c
			d.Test = x
			checks(t, api.ErrForm, d)
			checks(t, api.ErrForm, either(yes, nil, plain(api.Keep), d))
		}
		for _, inner := range append(oneOfEach(), api.Command{}, api.Command{Kind: 11}) {
			d := c
			d.Then = []api.Command{inner}
			checks(t, api.ErrForm, d)
			d = c
			d.Else = []api.Command{inner}
			checks(t, api.ErrForm, d)
			checks(t, api.ErrForm, when(yes, d))
		}
	}
	checks(t, api.ErrForm, api.Command{Kind: api.If, Texts: []string{""}})
	checks(t, api.OK, api.Command{Kind: api.If, Test: yes, Texts: []string{}, Then: []api.Command{}, Else: []api.Command{}})
}

// anyOfTest: tests of no kind that have one thing each.
func anyOfTest() []api.Test {
	return []api.Test{{Kind: 11}, {Kind: -1}, {Match: 1}, {Match: -1}, {Part: 1}, {Part: 9}, {Names: []string{""}}, {Keys: []string{"k"}}, {Over: true}, {Limit: 1}, {Limit: -1}, {Tests: []api.Test{{}}}}
}

// P5.6: what a test has that it may not have, or has not.
func TestFormOfTests(t *testing.T) {
	has := map[int]string{ // the fields that a test must have
		api.True: "", api.False: "", api.Not: "T", api.AllOf: "T", api.AnyOf: "T", api.Header: "MNK", api.Addr: "MPNK", api.Envelope: "MPNK", api.Exists: "N", api.Size: "OL",
	}
	for _, x := range testOfEach() {
		mayHave := func(field byte) bool { return slices.Contains([]byte(has[x.Kind]), field) }
		one := func(field byte, change func(y *api.Test), ifHad api.Errno) {
			t.Helper()
			y := x
			change(&y)
			if !mayHave(field) {
				ifHad = api.ErrForm
			}
			checksTest(t, ifHad, y)
		}
		for _, n := range []int{1, 2, 3} {
			one('M', func(y *api.Test) { y.Match = n }, api.OK)
			one('P', func(y *api.Test) { y.Part = n }, api.OK)
		}
		for _, n := range otherNumbers(3) {
			if n != 0 || mayHave('M') {
				one('M', func(y *api.Test) { y.Match = n }, api.ErrForm)
			}
			if n != 0 || mayHave('P') {
				one('P', func(y *api.Test) { y.Part = n }, api.ErrForm)
			}
		}
		one('N', func(y *api.Test) { y.Names = []string{""} }, api.OK)
		one('N', func(y *api.Test) { y.Names = []string{"a", "b", "a"} }, api.OK)
		one('K', func(y *api.Test) { y.Keys = []string{""} }, api.OK)
		one('K', func(y *api.Test) { y.Keys = []string{"a", "b", "a"} }, api.OK)
		one('O', func(y *api.Test) { y.Over = true }, api.OK)
		for _, n := range []int{1, 1024, api.MaxNumber - 1, api.MaxNumber} {
			one('L', func(y *api.Test) { y.Limit = n }, api.OK)
		}
		for _, n := range []int{-1, math.MinInt, api.MaxNumber + 1, 1 << 32, math.MaxInt} {
			one('L', func(y *api.Test) { y.Limit = n }, api.ErrForm)
		}
		one('T', func(y *api.Test) { y.Tests = []api.Test{{Kind: api.Size}} }, api.OK)
		both := api.OK
		if x.Kind == api.Not {
			both = api.ErrForm
		}
		one('T', func(y *api.Test) { y.Tests = []api.Test{yes, yes} }, both)
		for _, none := range [][]string{nil, {}} {
			empty := x
			empty.Names, empty.Keys, empty.Tests = none, x.Keys, x.Tests
			checksTest(t, formIf(mayHave('N')), empty)
			empty.Names, empty.Keys = x.Names, none
			checksTest(t, formIf(mayHave('K')), empty)
			empty.Keys, empty.Tests = x.Keys, make([]api.Test, len(none))
			checksTest(t, formIf(mayHave('T')), empty)
		}
	}
}

// formIf: an error, if something is missing.
func formIf(missing bool) api.Errno {
	if missing {
		return api.ErrForm
	}
	return api.OK
}

// wrapped in so many Ifs.
func wrapped(c api.Command, n int) api.Command {
	for range n {
		c = when(yes, c)
	}
	return c
}

// negated so many times.
func negated(x api.Test, n int) api.Test {
	for range n {
		x = api.Test{Kind: api.Not, Tests: []api.Test{x}}
	}
	return x
}

// P5.6: how deep commands and tests may be.
func TestDepth(t *testing.T) {
	for _, c := range oneOfEach() {
		for n := range api.MaxNest + 3 {
			want := api.OK
			if n > api.MaxNest {
				want = api.ErrSize
			}
			checks(t, want, wrapped(c, n))
			if n == 0 {
				continue
			}
			checks(t, want, either(yes, nil, plain(api.Keep), wrapped(c, n-1)))
			// An If that is all that is Else is as deep as it would be without what is ahead of it.
			checks(t, want, chained(wrapped(c, n), 3))
		}
		if c.Kind != api.If {
			checks(t, api.OK, wrapped(either(yes, nil, c), api.MaxNest-1))
			checks(t, api.ErrSize, wrapped(either(yes, nil, c), api.MaxNest))
			checks(t, api.ErrSize, wrapped(either(yes, nil, either(yes, nil, c)), api.MaxNest))
		}
	}
	checks(t, api.OK, wrapped(either(yes, nil, when(yes)), api.MaxNest))
	checks(t, api.OK, wrapped(either(yes, nil, either(yes, nil, when(yes))), api.MaxNest))
	checks(t, api.ErrSize, wrapped(either(yes, nil, when(yes), when(yes)), api.MaxNest))
	checks(t, api.ErrSize, wrapped(either(yes, nil, when(yes, when(yes))), api.MaxNest))
	checks(t, api.ErrSize, wrapped(plain(api.Keep), 1000))
	for _, x := range testOfEach() {
		inner := len(x.Tests)
		for n := range api.MaxNest + 3 {
			want := api.OK
			if 1+n+inner > api.MaxNest {
				want = api.ErrSize
			}
			checks(t, want, when(negated(x, n)))
			checks(t, want, wrapped(when(negated(x, n)), api.MaxNest))
			checks(t, want, either(yes, nil, when(negated(x, n))))
			if n > 0 {
				checks(t, want, when(api.Test{Kind: api.AnyOf, Tests: []api.Test{yes, negated(x, n-1)}}))
			}
		}
	}
	checks(t, api.ErrSize, when(negated(yes, 60000)))
}

// chained: so many Ifs, each of which is all that is Else of the one ahead of it, and the last one.
func chained(last api.Command, n int) api.Command {
	for range n {
		last = either(yes, nil, last)
	}
	return last
}

// P5.6: a long chain of what is else is not deep.
func TestChains(t *testing.T) {
	checks(t, api.OK, chained(when(yes), api.MaxTokens/4-1))
	checks(t, api.ErrFull, chained(when(yes), api.MaxTokens/4))
	checks(t, api.ErrFull, chained(when(yes), 60000))
	checks(t, api.ErrKind, chained(when(api.Test{}), 60000))
	checks(t, api.ErrSize, chained(wrapped(plain(api.Keep), api.MaxNest+1), 60000))
	checks(t, api.ErrFull, chained(wrapped(plain(api.Keep), api.MaxNest), 60000))
	checks(t, api.ErrForm, chained(plain(api.Keep, "a"), 60000))
}

// P5.6: of several things that are wrong the first one is told.
func TestOrderOfErrors(t *testing.T) {
	kind, form := api.Command{Kind: 11}, plain(api.FileInto)
	size := wrapped(plain(api.Keep), api.MaxNest+1)
	for _, a := range []struct {
		c    api.Command
		want api.Errno
	}{{kind, api.ErrKind}, {form, api.ErrForm}, {size, api.ErrSize}} {
		for _, b := range []api.Command{kind, form, size} {
			checks(t, a.want, a.c, b)
			checks(t, a.want, plain(api.Keep), a.c, b)
			checks(t, a.want, either(yes, []api.Command{a.c}, b))
			checks(t, a.want, either(yes, nil, plain(api.Stop), a.c, b))
			checks(t, a.want, when(yes, a.c), b)
			checks(t, a.want, either(yes, nil, a.c), b)
		}
	}
	badTests := []struct {
		x    api.Test
		want api.Errno
	}{{api.Test{}, api.ErrKind}, {api.Test{Kind: api.Not}, api.ErrForm}, {negated(yes, api.MaxNest), api.ErrSize}}
	for _, a := range badTests {
		for _, c := range []api.Command{kind, form, size} {
			checks(t, a.want, either(a.x, []api.Command{c}, c))
			checks(t, a.want, either(yes, nil, either(a.x, []api.Command{c}, c)))
			checks(t, a.want, either(yes, []api.Command{when(a.x)}, c))
			bad := when(a.x)
			bad.Texts = []string{"a"}
			checks(t, api.ErrForm, bad, c)
		}
		for _, b := range badTests {
			checks(t, a.want, when(api.Test{Kind: api.AllOf, Tests: []api.Test{a.x, b.x}}))
			checks(t, a.want, when(api.Test{Kind: api.AnyOf, Tests: []api.Test{yes, a.x, b.x}}))
			checks(t, api.ErrForm, when(api.Test{Kind: api.Not, Tests: []api.Test{a.x, b.x}}))
			checks(t, api.ErrForm, when(api.Test{Kind: api.AllOf, Tests: []api.Test{a.x}, Limit: 1}))
		}
	}
	tooDeep := func(c api.Command) api.Command { return wrapped(c, api.MaxNest+1) }
	checks(t, api.ErrKind, tooDeep(kind))
	checks(t, api.ErrSize, tooDeep(form))
	checks(t, api.ErrSize, tooDeep(when(api.Test{})))
	checks(t, api.ErrKind, when(negated(api.Test{}, api.MaxNest)))
	checks(t, api.ErrSize, when(negated(api.Test{Kind: api.Not}, api.MaxNest)))
	checks(t, api.ErrForm, when(negated(api.Test{Kind: api.Not}, api.MaxNest-1)))
	checks(t, api.ErrSize, when(negated(api.Test{Kind: api.Not, Tests: []api.Test{{}}}, api.MaxNest)))
	full := slices.Repeat([]api.Command{plain(api.Keep)}, api.MaxTokens)
	for _, bad := range []api.Command{kind, form, size} {
		checks(t, map[int]api.Errno{11: api.ErrKind, api.FileInto: api.ErrForm, api.If: api.ErrSize}[bad.Kind], append(slices.Clone(full), bad)...)
	}
}

// P5.6: as many tokens as can be, and one more.
func TestFull(t *testing.T) {
	keeps := func(n int) []api.Command { return slices.Repeat([]api.Command{plain(api.Keep)}, n) }
	checks(t, api.OK, keeps(api.MaxTokens/2)...)
	checks(t, api.ErrFull, keeps(api.MaxTokens/2+1)...)
	for _, c := range []struct {
		n int
		c api.Command
	}{
		{3, plain(api.FileInto, "a")}, {3, plain(api.Require, "a")}, {7, plain(api.Require, "a", "b")}, {9, plain(api.AddFlag, "a", "b", "c")}, {4, when(yes)},
		{6, when(yes, plain(api.Keep))}, {4, either(yes, nil)}, {9, either(yes, nil, plain(api.Keep))}, {8, either(yes, nil, when(yes))}, {5, when(negated(yes, 1))},
		{7, when(api.Test{Kind: api.AllOf, Tests: []api.Test{yes}})}, {9, when(api.Test{Kind: api.AnyOf, Tests: []api.Test{yes, yes}})},
		{7, when(api.Test{Kind: api.Header, Match: api.Is, Names: []string{"a"}, Keys: []string{"b"}})},
		{8, when(api.Test{Kind: api.Addr, Match: api.Is, Part: api.All, Names: []string{"a"}, Keys: []string{"b"}})},
		{18, when(api.Test{Kind: api.Envelope, Match: api.Is, Part: api.All, Names: []string{"a", "b"}, Keys: []string{"b", "c", "d"}})},
		{5, when(api.Test{Kind: api.Exists, Names: []string{"a"}})}, {6, when(api.Test{Kind: api.Size, Limit: 1})},
	} {
		checksTokens(t, c.n, c.c)
	}
	checks(t, api.ErrFull, plain(api.Require, make([]string, 1<<20)...))
	checks(t, api.ErrFull, keeps(1<<20)...)
}

// checksTokens: these commands take so many tokens: with others that fill the rest they are no more than can be.
func checksTokens(t *testing.T, n int, c api.Command) {
	t.Helper()
	room := api.MaxTokens - n
	var l []api.Command
	if room%2 == 1 {
		l, room = append(l, plain(api.Reject, "r")), room-3
	}
	for range room / 2 {
		l = append(l, plain(api.Stop))
	}
	checks(t, api.OK, append(l, c)...)
	checks(t, api.OK, append([]api.Command{c}, l...)...)
	l[len(l)-1] = plain(api.Reject, "one more token")
	checks(t, api.ErrFull, append(l, c)...)
	checks(t, api.ErrFull, append([]api.Command{c}, l...)...)
}
