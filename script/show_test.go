package script_test

import (
	"slices"
	"testing"

	"postroom/api"
	"postroom/script"
)

// P5.7: commands as tokens.
func TestShowCommands(t *testing.T) {
	keep, stop := plain(api.Keep), plain(api.Stop)
	list := func(l ...api.Command) []api.Command { return l }
	shows(t, "")
	shows(t, "keep; discard; stop;", keep, plain(api.Discard), stop)
	shows(t, `fileinto "a"; redirect "b"; reject "";`, plain(api.FileInto, "a"), plain(api.Redirect, "b"), plain(api.Reject, ""))
	shows(t, `require "a"; setflag "b"; addflag "";`, plain(api.Require, "a"), plain(api.SetFlag, "b"), plain(api.AddFlag, ""))
	shows(t, `require ["a", "b"]; setflag ["", "", ""]; addflag ["\"", "\\"];`, plain(api.Require, "a", "b"), plain(api.SetFlag, "", "", ""), plain(api.AddFlag, `"`, `\`))
	shows(t, "if true { }", when(yes))
	shows(t, "if true { keep; stop; } keep;", when(yes, keep, stop), keep)
	shows(t, "if true { } else { keep; }", either(yes, nil, keep))
	shows(t, "if true { keep; } else { keep; stop; } stop;", either(yes, list(keep), keep, stop), stop)
	shows(t, "if true { } elsif true { }", either(yes, nil, when(yes)))
	shows(t, "if true { } elsif true { keep; } else { stop; }", either(yes, nil, either(yes, list(keep), stop)))
	shows(t, "if true { } elsif true { } elsif true { } else { stop; if true { } }", either(yes, nil, either(yes, nil, either(yes, nil, stop, when(yes)))))
	shows(t, "if true { } else { if true { } if true { } }", either(yes, nil, when(yes), when(yes)))
	shows(t, "if true { } else { if true { } keep; }", either(yes, nil, when(yes), keep))
	shows(t, "if true { if true { } elsif true { } } elsif true { if true { } } else { keep; }", either(yes, list(either(yes, nil, when(yes))), either(yes, list(when(yes)), keep)))
	empty := api.Command{Kind: api.If, Test: yes, Then: []api.Command{}, Else: []api.Command{}}
	shows(t, "if true { } elsif true { }", either(yes, nil, empty))
}

// P5.7: tests as tokens: how and which part is always told, the part first.
func TestShowTests(t *testing.T) {
	one := func(source string, x api.Test) {
		t.Helper()
		shows(t, "if "+source+" { }", when(x))
		shows(t, "if true { } elsif not "+source+" { keep; }", either(yes, nil, when(negated(x, 1), plain(api.Keep))))
	}
	one("true", yes)
	one("false", api.Test{Kind: api.False})
	one("not not false", negated(api.Test{Kind: api.False}, 2))
	one("allof (true)", api.Test{Kind: api.AllOf, Tests: []api.Test{yes}})
	one("anyof (true, false, not true)", api.Test{Kind: api.AnyOf, Tests: []api.Test{yes, {Kind: api.False}, negated(yes, 1)}})
	one("allof (anyof (true), allof (true, true))", api.Test{Kind: api.AllOf, Tests: []api.Test{{Kind: api.AnyOf, Tests: []api.Test{yes}}, {Kind: api.AllOf, Tests: []api.Test{yes, yes}}}})
	one(`exists "a"`, api.Test{Kind: api.Exists, Names: []string{"a"}})
	one(`exists ["a", "b"]`, api.Test{Kind: api.Exists, Names: []string{"a", "b"}})
	one("size :over 0", api.Test{Kind: api.Size, Over: true})
	one("size :under 2147483647", api.Test{Kind: api.Size, Limit: api.MaxNumber})
	for match, m := range []string{api.Is: ":is", api.Contains: ":contains", api.Matches: ":matches"} {
		if m == "" {
			continue
		}
		one("header "+m+` "n" "k"`, api.Test{Kind: api.Header, Match: match, Names: []string{"n"}, Keys: []string{"k"}})
		one("header "+m+` ["n", "k"] ["k", "n", ""]`, api.Test{Kind: api.Header, Match: match, Names: []string{"n", "k"}, Keys: []string{"k", "n", ""}})
		for part, p := range []string{api.All: ":all", api.Local: ":localpart", api.Domain: ":domain"} {
			if p == "" {
				continue
			}
			one("address "+p+" "+m+` "n" "k"`, api.Test{Kind: api.Addr, Match: match, Part: part, Names: []string{"n"}, Keys: []string{"k"}})
			one("envelope "+p+" "+m+` ["n", "m"] "k"`, api.Test{Kind: api.Envelope, Match: match, Part: part, Names: []string{"n", "m"}, Keys: []string{"k"}})
		}
	}
}

// P5.7: a source that is written otherwise is shown as all others are.
func TestShowOfParsed(t *testing.T) {
	for source, want := range map[string]string{
		`require ["a"];`:                                        `require "a";`,
		`if header "a" "b" { }`:                                 `if header :is "a" "b" { }`,
		`if address :contains ["a"] ["b"] { }`:                  `if address :all :contains "a" "b" { }`,
		`if envelope :matches :domain "a" "b" { }`:              `if envelope :domain :matches "a" "b" { }`,
		`if address :localpart "a" "b" { }`:                     `if address :localpart :is "a" "b" { }`,
		"if true { } else { }":                                  "if true { }",
		"if true { } else { if true { } }":                      "if true { } elsif true { }",
		"if true { } else { if true { } else { if true { } } }": "if true { } elsif true { } elsif true { }",
		"if true { } elsif true { } else { }":                   "if true { } elsif true { }",
		"if size :over 2K { keep; }":                            "if size :over 2048 { keep; }",
	} {
		l, _, e := script.Parse(tokens(t, source))
		if e != api.OK {
			t.Errorf("Parse(%q): %d", source, e)
		}
		shows(t, want, l...)
	}
}

// P5.7: what is parsed may have too many tokens when it is shown.
func TestShowIsFull(t *testing.T) {
	short := tokens(t, `if header "a" "b" { }`)
	l, _, e := script.Parse(slices.Repeat(short, api.MaxTokens/len(short)))
	if e != api.OK {
		t.Errorf("Parse: %d", e)
	}
	checks(t, api.ErrFull, l...)
	checks(t, api.OK, l[:api.MaxTokens/(len(short)+1)]...)
	checks(t, api.ErrFull, l[:api.MaxTokens/(len(short)+1)+1]...)
}
