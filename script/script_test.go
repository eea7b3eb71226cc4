package script_test

import (
	"fmt"
	"slices"
	"strings"
	"testing"

	"postroom/api"
	"postroom/script"
	"postroom/token"
)

// tell: what something is, with quotes, so that lists of other texts never look alike; no list is as an empty one.
func tell(x any) string {
	return fmt.Sprintf("%q", x)
}

// brief: the beginning of what something looks like; some are very long.
func brief(x any) string {
	return fmt.Sprintf("%.120v", fmt.Sprint(x))
}

// tokens of a source that can be cut.
func tokens(t *testing.T, source string) []api.Token {
	t.Helper()
	l, _, e := token.Cut(source)
	if e != api.OK {
		t.Fatalf("Cut(%.80q): %d", source, e)
	}
	return l
}

// parses: Parse answers these commands of a source.
func parses(t *testing.T, source string, want ...api.Command) {
	t.Helper()
	if got, place, e := script.Parse(tokens(t, source)); tell(got) != tell(want) || place != 0 || e != api.OK {
		t.Errorf("Parse(%.80q) = %s, %d, %d; want %s, 0, 0", source, brief(got), place, e, brief(want))
	}
}

// stumbles: Parse answers this error at this place, and no commands.
func stumbles(t *testing.T, l []api.Token, place int, want api.Errno) {
	t.Helper()
	if got, at, e := script.Parse(l); len(got) != 0 || at != place || e != want {
		t.Errorf("Parse(%s) = %s, %d, %d; want nothing, %d, %d", brief(l), brief(got), at, e, place, want)
	}
}

// misfits: in this source, which may go on behind a ~, the token behind the ~ can't stand where it stands; is none
// there, the tokens end too early.
func misfits(t *testing.T, source string) {
	t.Helper()
	ahead, behind, _ := strings.Cut(source, "~")
	a, b := tokens(t, ahead), tokens(t, behind)
	want := api.ErrForm
	if len(b) == 0 {
		want = api.ErrShort
	}
	stumbles(t, slices.Concat(a, b), len(a), want)
}

// shows: Show answers the tokens of this source, which are parsed as the commands were.
func shows(t *testing.T, source string, l ...api.Command) {
	t.Helper()
	want := tokens(t, source)
	if got, e := script.Show(l); !slices.Equal(got, want) || e != api.OK {
		t.Errorf("Show(%s) = %s, %d; want %s, 0", brief(l), brief(got), e, brief(want))
	}
	if e := script.Check(l); e != api.OK {
		t.Errorf("Check(%s) = %d; want 0", brief(l), e)
	}
	parses(t, source, l...)
}

// checks: Check answers this; and Show refuses what may not be with the same error.
func checks(t *testing.T, want api.Errno, l ...api.Command) {
	t.Helper()
	if e := script.Check(l); e != want {
		t.Errorf("Check(%s) = %d; want %d", brief(l), e, want)
	}
	got, e := script.Show(l)
	if e != want || (want != api.OK && len(got) != 0) {
		t.Errorf("Show(%s) = %s, %d; want %d", brief(l), brief(got), e, want)
	}
}

// checksTest: Check answers this of a test, wherever it stands.
func checksTest(t *testing.T, want api.Errno, x api.Test) {
	t.Helper()
	checks(t, want, when(x))
	checks(t, want, plain(api.Keep), when(x, when(x)), plain(api.Keep))
	checks(t, want, when(api.Test{Kind: api.Not, Tests: []api.Test{x}}))
	checks(t, want, when(api.Test{Kind: api.AllOf, Tests: []api.Test{yes, x, yes}}))
	checks(t, want, either(yes, nil, when(x)))
	checks(t, want, either(yes, nil, plain(api.Stop), when(x)))
}

// yes: a test that is always true.
var yes = api.Test{Kind: api.True}

// plain command with texts.
func plain(kind int, texts ...string) api.Command {
	return api.Command{Kind: kind, Texts: texts}
}

// when: an If with nothing else.
func when(x api.Test, then ...api.Command) api.Command {
	return api.Command{Kind: api.If, Test: x, Then: then}
}

// either: an If with something else.
func either(x api.Test, then []api.Command, other ...api.Command) api.Command {
	return api.Command{Kind: api.If, Test: x, Then: then, Else: other}
}

// parsesTest: Parse answers this test of a source.
func parsesTest(t *testing.T, source string, want api.Test) {
	t.Helper()
	parses(t, "if "+source+" { keep; }", when(want, plain(api.Keep)))
	parses(t, "if true { } elsif "+source+" { }", either(yes, nil, when(want)))
	parses(t, "if not "+source+" { }", when(api.Test{Kind: api.Not, Tests: []api.Test{want}}))
	parses(t, "if anyof (true, "+source+") { }", when(api.Test{Kind: api.AnyOf, Tests: []api.Test{yes, want}}))
}

// misfitsTest: a test can't be so, with what stands behind the ~.
func misfitsTest(t *testing.T, source string) {
	t.Helper()
	for _, ahead := range []string{"if ", "if not ", "keep; if true { if ", "if true { } elsif ", "if allof (", "if anyof (true, "} {
		misfits(t, ahead+source)
	}
}
