package judge_test

import (
	"slices"
	"strings"
	"testing"

	"postroom/api"
	"postroom/judge"
	"postroom/rule"
)

// judges: the course of a script.
func judges(t *testing.T, l []api.Command, x api.Letter, want api.Course) {
	t.Helper()
	if got, e := judge.Judge(l, x); !sameCourse(got, want) || e != api.OK {
		t.Errorf("Judge(%s, %s) = %s, %v; want %s", brief(l), brief(x), brief(got), e, brief(want))
	}
}

// judgesNot: Judge tells this error, and nothing else.
func judgesNot(t *testing.T, want api.Errno, l []api.Command, x api.Letter) {
	t.Helper()
	if got, e := judge.Judge(l, x); !sameCourse(got, api.Course{}) || e != want {
		t.Errorf("Judge(%s, %s) = %s, %v; want %v", brief(l), brief(x), brief(got), e, want)
	}
}

// P7.6: command by command, as long as it goes on.
func TestJudge(t *testing.T) {
	keep := func(flags int) api.Action { return api.Action{Kind: api.Keep, Flags: flags} }
	clash := asked(keep(0))
	clash.Fault = api.ErrClash
	for s, want := range map[string]api.Course{
		"":                        {},
		"keep;":                   asked(keep(0)),
		"discard;":                asked(action(api.Discard, "")),
		"stop;":                   {},
		"stop; keep;":             {},
		"keep; stop; discard;":    asked(keep(0)),
		"keep; discard; keep;":    asked(keep(0), action(api.Discard, "")),
		`keep; reject "a";`:       clash,
		`keep; reject "a"; stop;`: clash,
		`keep; reject "a"; fileinto "b"; setflag "\\Seen"; discard;`: clash,
		`setflag "\\Seen"; keep; setflag "\\Draft"; fileinto "a"; addflag "\\Seen"; keep; fileinto "b";`: {
			Actions: []api.Action{keep(1), {Kind: api.FileInto, Text: "a", Flags: 16}, {Kind: api.FileInto, Text: "b", Flags: 17}}, Flags: 17, Asked: true},
		`addflag ["\\Seen", "\\Deleted"];`: {Flags: 9},
		`fileinto "a"; fileinto "b"; fileinto "c"; fileinto "d"; fileinto "e"; fileinto "f"; fileinto "a";`:                         asked(boxes(6)...),
		`fileinto "a"; fileinto "b"; fileinto "c"; fileinto "d"; fileinto "e"; fileinto "f"; keep; addflag "\\Seen"; fileinto "g";`: {Actions: boxes(6), Asked: true, Fault: api.ErrFull},
		`discard; redirect "Ann <a@b>"; redirect "a@b";`:                                                                            asked(action(api.Discard, ""), action(api.Redirect, "a@b")),
		`reject "a"; discard;`: asked(action(api.Reject, "a"), action(api.Discard, "")),
	} {
		judges(t, read(t, s), letterOf("\r\n"), want)
	}
	judges(t, nil, letterOf("\r\n"), api.Course{})
	judges(t, []api.Command{}, letterOf("\r\n"), api.Course{})
	judges(t, []api.Command{command(api.Keep)}, letterOf("\r\n"), asked(keep(0)))
}

// P7.6: of an If those of Then or of Else.
func TestJudgeIf(t *testing.T) {
	into := func(names string) api.Course {
		var l []api.Action
		for _, n := range strings.Fields(names) {
			l = append(l, action(api.FileInto, n))
		}
		return api.Course{Actions: l, Asked: len(l) > 0}
	}
	for s, want := range map[string]string{
		`if true { fileinto "a"; }`:                                                                                                           "a",
		`if false { fileinto "a"; }`:                                                                                                          "",
		`if true { fileinto "a"; } else { fileinto "b"; }`:                                                                                    "a",
		`if false { fileinto "a"; } else { fileinto "b"; }`:                                                                                   "b",
		`if false { fileinto "a"; } elsif true { fileinto "b"; } else { fileinto "c"; }`:                                                      "b",
		`if false { fileinto "a"; } elsif false { fileinto "b"; } else { fileinto "c"; }`:                                                     "c",
		`if true { fileinto "a"; } elsif true { fileinto "b"; } else { fileinto "c"; }`:                                                       "a",
		`if true {} else { fileinto "b"; } fileinto "c";`:                                                                                     "c",
		`if true { fileinto "a"; fileinto "b"; } fileinto "c";`:                                                                               "a b c",
		`if true { fileinto "a"; stop; fileinto "b"; } fileinto "c";`:                                                                         "a",
		`if true { if true { fileinto "a"; stop; } fileinto "b"; } else { } fileinto "c";`:                                                    "a",
		`if false { stop; } else { fileinto "a"; } fileinto "b"; stop;`:                                                                       "a b",
		`if false { } else { if true { stop; } fileinto "x"; } fileinto "b";`:                                                                 "",
		`if true { if false { fileinto "a"; } else { fileinto "b"; } if true { fileinto "c"; } }`:                                             "b c",
		`if header "s" "t" { fileinto "a"; } if header "s" "u" { fileinto "b"; }`:                                                             "a",
		`if envelope :localpart "from" "joe" { fileinto "a"; } if size :over 100 { fileinto "b"; } elsif exists ["s", "x"] { fileinto "c"; }`: "a",
		`if address "s" "t" { fileinto "a"; } elsif not exists "s" { fileinto "b"; } else { fileinto "c"; }`:                                  "c",
	} {
		judges(t, read(t, s), letterOf(lines("s: t", "", "body")), into(want))
	}
	fault := into("a")
	fault.Fault = api.ErrClash
	judges(t, read(t, `if true { fileinto "a"; if true { reject "no"; fileinto "b"; } fileinto "c"; } else { fileinto "d"; } fileinto "e";`), letterOf("\r\n"), fault)
}

// P7.6: what is refused of the script, then of the letter.
func TestJudgeRefuses(t *testing.T) {
	yes := api.Test{Kind: api.True}
	scripts := map[api.Errno][]api.Command{
		api.ErrKind:  {{}},
		api.ErrForm:  {command(api.Keep), command(api.Require, "reject")},
		api.ErrNone:  {command(api.Require, "none")},
		api.ErrRight: {command(api.Stop), command(api.FileInto, "a")},
		api.ErrSize:  {command(api.Require, "fileinto"), {Kind: api.If, Test: yes, Else: []api.Command{command(api.FileInto, text(13))}}},
		api.ErrFull:  slices.Repeat([]api.Command{command(api.Keep)}, 201),
	}
	for e, l := range scripts {
		judgesNot(t, e, l, letterOf("\r\n"))
		judgesNot(t, e, l, letterOf(""))
		judgesNot(t, e, l, api.Letter{})
	}
	for _, l := range [][]api.Command{nil, {command(api.Stop)}, read(t, "keep;"), read(t, `if size :over 10 { discard; }`)} {
		for s, e := range wrongTexts() {
			judgesNot(t, e, l, letterOf(s))
		}
		for a, e := range wrongAddresses() {
			judgesNot(t, e, l, api.Letter{From: a, To: ann, Text: "\r\n"})
			judgesNot(t, e, l, api.Letter{From: joe, To: a, Text: ""})
		}
	}
}

// P7.6: what a script may have is done, be it too long for Ask or Do with what they require.
func TestJudgeLong(t *testing.T) {
	l := letterOf("s: t\r\n\r\n")
	// The test has 395 tokens, the If with it and the Discard 5 more.
	x := nots(1, api.Test{Kind: api.Exists, Names: slices.Repeat([]string{"x"}, 196)})
	refuses(t, api.ErrFull, x, l)
	judges(t, []api.Command{{Kind: api.If, Test: x, Then: []api.Command{command(api.Discard)}}}, l, asked(action(api.Discard, "")))
	many := command(api.SetFlag, slices.Repeat([]string{`\Draft`}, 196)...)
	doesNot(t, api.ErrFull, api.Course{}, many)
	judges(t, []api.Command{command(api.Require, "imap4flags"), many}, l, api.Course{Flags: api.Draft})
}

// P7.6: as many as can be, one the Else of the other.
func TestJudgeChain(t *testing.T) {
	no := api.Test{Kind: api.False}
	last := api.Command{Kind: api.If, Test: no, Else: []api.Command{command(api.Discard)}}
	for range 97 {
		last = api.Command{Kind: api.If, Test: no, Else: []api.Command{last}}
	}
	judges(t, []api.Command{last}, letterOf("\r\n"), asked(action(api.Discard, "")))
}

// The example of the whole: a letter by no script is kept.
func TestNoScript(t *testing.T) {
	l, e := rule.Read("")
	if e != api.OK {
		t.Fatal(e)
	}
	c, e := judge.Judge(l, api.Letter{From: api.Address{Local: "b", Domain: "c"}, To: api.Address{Local: "ann", Domain: "d"}, Text: lines("s: t", "", "hello")})
	if e != api.OK {
		t.Fatal(e)
	}
	ends(t, c, api.Action{Kind: api.Keep})
}
