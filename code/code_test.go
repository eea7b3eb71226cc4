package code_test

import (
	"fmt"
	"reflect"
	"slices"
	"strings"
	"testing"

	"postroom/api"
	"postroom/code"
	"postroom/rule"
	"postroom/script"
)

// All that may be required, as a script.
const all = `require ["fileinto", "reject", "envelope", "imap4flags"]; `

var (
	ann = api.Address{Local: "ann", Domain: "y.org"}
	joe = api.Address{Local: "joe", Domain: "z"}
)

// text of so many bytes.
func text(n int) string { return strings.Repeat("a", n) }

// letterOf a text, from joe to ann.
func letterOf(s string) api.Letter { return api.Letter{From: joe, To: ann, Text: s} }

// read a script that is allowed.
func read(t *testing.T, s string) []api.Command {
	t.Helper()
	l, e := rule.Read(s)
	if e != api.OK {
		t.Fatalf("Read(%q): %v", s, e)
	}
	return l
}

// compile a script's text, with all that may be required; the Do of that is left out, so all places are one less.
func compile(t *testing.T, s string) []api.Op {
	t.Helper()
	l, e := code.Compile(read(t, all+s))
	if e != api.OK || len(l) == 0 {
		t.Fatalf("Compile(%q) = %v, %v", s, l, e)
	}
	if first := do(api.Require, "fileinto", "reject", "envelope", "imap4flags"); !reflect.DeepEqual(l[0], first) {
		t.Fatalf("Compile(%q) begins with %v", s, l[0])
	}
	for i := range l {
		if l[i].To > 0 {
			l[i].To--
		}
	}
	return l[1:]
}

// do: an op with a command.
func do(kind int, texts ...string) api.Op { return api.Op{Kind: api.Do, What: command(kind, texts...)} }

// jump of a kind.
func jump(kind, to int) api.Op { return api.Op{Kind: kind, To: to} }

// ask: an op with a test of a kind that has nothing.
func ask(kind int) api.Op { return api.Op{Kind: api.Ask, Test: api.Test{Kind: kind}} }

// flip: an op.
func flip() api.Op { return api.Op{Kind: api.Flip} }

// command of a kind, with its texts.
func command(kind int, texts ...string) api.Command {
	return api.Command{Kind: kind, Texts: texts}
}

// shapeOf ops: a word each, with the place of a jump, the kind of a test, or the kind of a command.
func shapeOf(l []api.Op) string {
	var words []string
	for _, o := range l {
		switch o.Kind {
		case api.Ask:
			words = append(words, fmt.Sprint("ask", o.Test.Kind))
		case api.Flip:
			words = append(words, "flip")
		case api.JumpTrue:
			words = append(words, fmt.Sprint("true", o.To))
		case api.JumpFalse:
			words = append(words, fmt.Sprint("false", o.To))
		case api.Jump:
			words = append(words, fmt.Sprint("jump", o.To))
		case api.Do:
			words = append(words, fmt.Sprint("do", o.What.Kind))
		default:
			words = append(words, "none")
		}
	}
	return strings.Join(words, " ")
}

// brief: a value as it is told, but not at length.
func brief(v any) string {
	s := fmt.Sprintf("%+v", v)
	return s[:min(len(s), 300)]
}

// P8.1: a command that is no If is a Do with its Kind and Texts, and nothing else.
func TestCompileCommands(t *testing.T) {
	for s, want := range map[string][]api.Op{
		"":                         nil,
		"keep;":                    {do(api.Keep)},
		"discard;":                 {do(api.Discard)},
		"stop; stop;":              {do(api.Stop), do(api.Stop)},
		`fileinto "work";`:         {do(api.FileInto, "work")},
		`redirect "Ann <a@b>";`:    {do(api.Redirect, "Ann <a@b>")},
		`reject "";`:               {do(api.Reject, "")},
		`setflag "\\Seen";`:        {do(api.SetFlag, `\Seen`)},
		`stop; keep; reject "no";`: {do(api.Stop), do(api.Keep), do(api.Reject, "no")},
		`require "reject"; require ["envelope", "envelope"]; addflag ["\\Draft", "\\Seen", "\\Draft"];`: {do(api.Require, "reject"), do(api.Require, "envelope", "envelope"), do(api.AddFlag, `\Draft`, `\Seen`, `\Draft`)},
	} {
		got := compile(t, s)
		if len(got) != len(want) || len(want) > 0 && !reflect.DeepEqual(got, want) {
			t.Errorf("%q: %v; want %v", s, got, want)
		}
	}
	for _, l := range [][]api.Command{nil, {}} {
		if got, e := code.Compile(l); len(got) != 0 || e != api.OK {
			t.Errorf("no commands: %v, %v", got, e)
		}
	}
}

// P8.1: where the jumps of an If go.
func TestCompileIf(t *testing.T) {
	for s, want := range map[string]string{
		"if true {}":                                   "ask1 false2",
		"if true {} keep;":                             "ask1 false2 do3",
		"if true { keep; }":                            "ask1 false3 do3",
		"if true { keep; discard; } stop;":             "ask1 false4 do3 do4 do10",
		"if true { keep; } else {} stop;":              "ask1 false3 do3 do10",
		"if true {} else { keep; }":                    "ask1 false3 jump4 do3",
		"if true {} else { keep; stop; } stop;":        "ask1 false3 jump5 do3 do10 do10",
		"if true { keep; } else { stop; }":             "ask1 false4 do3 jump5 do10",
		"stop; if true { keep; } else { stop; } keep;": "do10 ask1 false5 do3 jump6 do10 do3",
		"if true { if false { keep; } }":               "ask1 false5 ask2 false5 do3",
		"if true { if false { keep; } else { stop; } keep; } else { if true {} stop; } discard;":   "ask1 false9 ask2 false6 do3 jump7 do10 do3 jump12 ask1 false11 do10 do4",
		"if true { keep; } elsif false { stop; }":                                                  "ask1 false4 do3 jump7 ask2 false7 do10",
		"if true { keep; } else { if false { stop; } }":                                            "ask1 false4 do3 jump7 ask2 false7 do10",
		"if true { keep; } elsif false { stop; } else { discard; } keep;":                          "ask1 false4 do3 jump9 ask2 false8 do10 jump9 do4 do3",
		"if true {} elsif false {} elsif true {}":                                                  "ask1 false3 jump8 ask2 false6 jump8 ask1 false8",
		"if true { if true { if true { if true { if true { if true { if true {} } } } } } } stop;": "ask1 false14 ask1 false14 ask1 false14 ask1 false14 ask1 false14 ask1 false14 ask1 false14 do10",
	} {
		if got := shapeOf(compile(t, s)); got != want {
			t.Errorf("%s: %s; want %s", s, got, want)
		}
	}
}

// P8.2: what a test in others becomes, and where its jumps go.
func TestCompileTests(t *testing.T) {
	for s, want := range map[string]string{
		"true":                       "ask1",
		"false":                      "ask2",
		"not true":                   "ask1 flip",
		"not not false":              "ask2 flip flip",
		"allof (true)":               "ask1",
		"anyof (false)":              "ask2",
		"allof (true, false)":        "ask1 false3 ask2",
		"anyof (true, false)":        "ask1 true3 ask2",
		"allof (true, false, true)":  "ask1 false5 ask2 false5 ask1",
		"anyof (true, false, false)": "ask1 true5 ask2 true5 ask2",
		"not allof (true, false)":    "ask1 false3 ask2 flip",
		"allof (not true, not anyof (false, true), false)":                    "ask1 flip false9 ask2 true6 ask1 flip false9 ask2",
		"anyof (allof (true, true), allof (false, false), anyof (true))":      "ask1 false3 ask1 true9 ask2 false7 ask2 true9 ask1",
		"allof (anyof (true, false), true)":                                   "ask1 true3 ask2 false5 ask1",
		"allof (true, anyof (true, false))":                                   "ask1 false5 ask1 true5 ask2",
		"allof (true, allof (true, allof (true, allof (true, not false))))":   "ask1 false10 ask1 false10 ask1 false10 ask1 false10 ask2 flip",
		"anyof (anyof (anyof (true, false), false), not not not not false)":   "ask1 true3 ask2 true5 ask2 true11 ask2 flip flip flip flip",
		`anyof (header "a" "b", address "a" "b", envelope "from" "b")`:        "ask6 true5 ask7 true5 ask8",
		`allof (exists ["a", "b"], size :over 1K, not exists "a")`:            "ask9 false6 ask10 false6 ask9 flip",
		"not anyof (not allof (not true, not false), not anyof (true, true))": "ask1 flip false5 ask2 flip flip true11 ask1 true10 ask1 flip flip",
	} {
		got := shapeOf(compile(t, "if "+s+" {}"))
		cut := strings.LastIndex(got, " ")
		if last := fmt.Sprint("false", len(strings.Fields(got))); got[cut+1:] != last {
			t.Errorf("%s: %s; want %s at its end", s, got, last)
		}
		if got[:cut] != want {
			t.Errorf("%s: %s; want %s", s, got[:cut], want)
		}
	}
}

// P8.2: an Ask has its whole test, and nothing else.
func TestCompileAsk(t *testing.T) {
	for s, want := range map[string]api.Test{
		`header "a" "b"`: {Kind: api.Header, Match: api.Is, Names: []string{"a"}, Keys: []string{"b"}},
		`header :matches ["a", "A"] ["b*", "", "b*"]`:  {Kind: api.Header, Match: api.Matches, Names: []string{"a", "A"}, Keys: []string{"b*", "", "b*"}},
		`address :localpart :contains "to" ["b", "c"]`: {Kind: api.Addr, Match: api.Contains, Part: api.Local, Names: []string{"to"}, Keys: []string{"b", "c"}},
		`envelope :domain ["from", "to"] "b"`:          {Kind: api.Envelope, Match: api.Is, Part: api.Domain, Names: []string{"from", "to"}, Keys: []string{"b"}},
		`exists ["a", "b"]`:                            {Kind: api.Exists, Names: []string{"a", "b"}},
		`size :over 3K`:                                {Kind: api.Size, Over: true, Limit: 3072},
		`size :under 0`:                                {Kind: api.Size},
		`true`:                                         {Kind: api.True},
		`false`:                                        {Kind: api.False},
	} {
		for around, want := range map[string][]api.Op{
			"%s":                {{Kind: api.Ask, Test: want}, jump(api.JumpFalse, 2)},
			"not %s":            {{Kind: api.Ask, Test: want}, flip(), jump(api.JumpFalse, 3)},
			"allof (%s, false)": {{Kind: api.Ask, Test: want}, jump(api.JumpFalse, 3), ask(api.False), jump(api.JumpFalse, 4)},
			"anyof (true, %s)":  {ask(api.True), jump(api.JumpTrue, 3), {Kind: api.Ask, Test: want}, jump(api.JumpFalse, 4)},
		} {
			x := fmt.Sprintf("if "+around+" {}", s)
			if got := compile(t, x); !reflect.DeepEqual(got, want) {
				t.Errorf("%s: %+v; want %+v", x, got, want)
			}
		}
	}
}

// P8.3: what is refused of a script.
func TestCompileRefuses(t *testing.T) {
	yes := api.Test{Kind: api.True}
	for e, scripts := range map[api.Errno][][]api.Command{
		api.ErrKind:  {{{}}, {command(api.Keep), command(11)}, {{Kind: api.If}}, {{Kind: api.If, Test: api.Test{Kind: 11}}}},
		api.ErrForm:  {{command(api.Keep, "a")}, {command(api.Keep), command(api.Require, "reject")}, {command(api.Redirect, "a")}, {{Kind: api.If, Test: api.Test{Kind: api.AllOf}}}, {{Kind: api.If, Test: yes, Texts: []string{"a"}}}},
		api.ErrNone:  {{command(api.Require, "none")}, {command(api.Require, "imap4flags"), command(api.SetFlag, "Seen")}},
		api.ErrRight: {{command(api.FileInto, "a")}, {command(api.Stop), command(api.Reject, "a")}, {{Kind: api.If, Test: yes, Else: []api.Command{command(api.AddFlag, `\Seen`)}}}, {{Kind: api.If, Test: api.Test{Kind: api.Envelope, Match: 1, Part: 1, Names: []string{"to"}, Keys: []string{""}}}}},
		api.ErrSize:  {{command(api.Require, "fileinto"), command(api.FileInto, text(13))}, {{Kind: api.If, Test: api.Test{Kind: api.Exists, Names: []string{text(101)}}}}},
		api.ErrFull:  {slices.Repeat([]api.Command{command(api.Keep)}, 201), {{Kind: api.If, Test: api.Test{Kind: api.Exists, Names: slices.Repeat([]string{"a"}, 400)}}}},
	} {
		for _, l := range scripts {
			if got, f := code.Compile(l); len(got) != 0 || f != e {
				t.Errorf("Compile(%s) = %s, %v; want %v", brief(l), brief(got), f, e)
			}
		}
	}
}

// P8.3: scripts of as many tokens as may be, with as many ops as can be made of them: these are never too many.
func TestCompileMuch(t *testing.T) {
	not := "not not not not not true"
	for s, ops := range map[string]int{
		strings.Repeat("keep; ", 200): 200,
		"if " + not + " {}" + strings.Repeat(" elsif "+not+" {}", 43) + " stop; stop;":      7 + 43*8 + 2,
		strings.Repeat("if "+not+" {} ", 44) + "keep; keep;":                                44*7 + 2,
		"if allof (true" + strings.Repeat(", true", 195) + ") { keep; }":                    196*2 + 1,
		"if anyof (not false" + strings.Repeat(", not not not not true", 65) + ") {} stop;": 2 + 65*6 + 2,
		"if true {}" + strings.Repeat(" elsif true {}", 98) + " else { }":                   2 + 98*3,
	} {
		cs, e := rule.Read(s)
		if e != api.OK {
			t.Errorf("%.80s: %v", s, e)
			continue
		}
		tokens, _ := script.Show(cs)
		if len(tokens) < 390 {
			t.Errorf("%.80s: just %d tokens", s, len(tokens))
		}
		l, e := code.Compile(cs)
		if len(l) != ops || e != api.OK || len(l) > len(tokens) {
			t.Errorf("%.80s: %d ops of %d tokens, %v; want %d", s, len(l), len(tokens), e, ops)
		}
		if e := code.Check(l); e != api.OK {
			t.Errorf("%.80s: its ops: %v", s, e)
		}
	}
}
