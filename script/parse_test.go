package script_test

import (
	"slices"
	"strings"
	"testing"

	"postroom/api"
)

// P5.1: each command, and what stands behind it.
func TestCommands(t *testing.T) {
	parses(t, "")
	parses(t, "keep;", plain(api.Keep))
	parses(t, "discard;", plain(api.Discard))
	parses(t, "stop;", plain(api.Stop))
	for word, kind := range map[string]int{"require": api.Require, "setflag": api.SetFlag, "addflag": api.AddFlag} {
		parses(t, word+` "a";`, plain(kind, "a"))
		parses(t, word+` "";`, plain(kind, ""))
		parses(t, word+` ["a"];`, plain(kind, "a"))
		parses(t, word+` ["a", "", "a", "b"]; stop;`, plain(kind, "a", "", "a", "b"), plain(api.Stop))
		for _, s := range []string{" ~", " ~;", " ~a;", " ~1;", " ~:a;", ` "a"~`, ` "a" ~"b";`, ` "a" ~, "b";`, ` "a" ~]`, ` "a" ~{`} {
			misfits(t, word+s)
		}
	}
	for word, kind := range map[string]int{"fileinto": api.FileInto, "redirect": api.Redirect, "reject": api.Reject} {
		parses(t, word+` "a";`, plain(kind, "a"))
		parses(t, word+` "";`, plain(kind, ""))
		for _, s := range []string{" ~", " ~;", ` ~["a"];`, " ~a;", " ~1;", " ~:a;", ` "a"~`, ` "a" ~"b";`, ` "a" ~, "b";`} {
			misfits(t, word+s)
		}
	}
	for _, word := range []string{"keep", "discard", "stop"} {
		for _, s := range []string{" ~", ` ~"a";`, " ~keep", " ~}", " ~{", " ~,", " ~1;", " ~:a;"} {
			misfits(t, word+s)
		}
	}
}

// P5.1: what no command begins with.
func TestNoCommands(t *testing.T) {
	for _, s := range []string{
		"else", "elsif", "else { }", "elsif true { }", "Keep;", "KEEP;", "keeps;", "kee;", "_keep;", "true", "not", "size", "address", "is", "over",
		`"keep";`, ":keep;", "1;", "0;", ";", "{", "}", "{ }", "(", ")", "[", "]", ",", "{ keep; }", `["keep"];`,
	} {
		misfits(t, "~"+s)
		misfits(t, "keep; ~"+s)
		if !strings.HasPrefix(s, "else") && !strings.HasPrefix(s, "elsif") {
			misfits(t, "if true { } ~"+s)
		}
		if !strings.HasPrefix(s, "}") {
			misfits(t, "if true { ~"+s)
			misfits(t, "if true { keep; ~"+s)
			misfits(t, "if true { } else { ~"+s)
		}
		misfits(t, "if true { } else { } ~"+s)
	}
}

// P5.1: an if, its blocks, and what is else.
func TestIfs(t *testing.T) {
	no := api.Test{Kind: api.False}
	keep, stop := plain(api.Keep), plain(api.Stop)
	list := func(l ...api.Command) []api.Command { return l }
	parses(t, "if true { }", when(yes))
	parses(t, "if true { keep; stop; }", when(yes, keep, stop))
	parses(t, "if true { } keep; if false { stop; }", when(yes), keep, when(no, stop))
	parses(t, "if true { if false { } }", when(yes, when(no)))
	parses(t, "if true { } else { }", when(yes))
	parses(t, "if true { keep; } else { stop; keep; }", either(yes, list(keep), stop, keep))
	parses(t, "if true { keep; } elsif false { stop; } keep;", either(yes, list(keep), when(no, stop)), keep)
	parses(t, "if true { } elsif false { } else { stop; }", either(yes, nil, either(no, nil, stop)))
	parses(t, "if true { } elsif false { } elsif true { keep; } elsif true { }", either(yes, nil, either(no, nil, either(yes, list(keep), when(yes)))))
	parses(t, "if true { } else { if false { } }", either(yes, nil, when(no)))
	parses(t, "if true { } else { if false { } else { keep; } } stop;", either(yes, nil, either(no, nil, keep)), stop)
	parses(t, "if true { } else { if false { } keep; }", either(yes, nil, when(no), keep))
	parses(t, "if true { if true { } else { keep; } }", when(yes, either(yes, nil, keep)))
	parses(t, "if true { if true { } } else { keep; }", either(yes, list(when(yes)), keep))
	for _, s := range []string{
		"if ~", "if ~{ }", "if ~;", "if ~keep;", "if ~else", "if ~(true) { }", "if true ~", "if true ~;", "if true ~keep;", "if true ~}", "if true ~true { }", "if true ~(",
		`if true ~"{" }`, "if true {~", "if true { keep; ~", "if true { ~; }", "if true { } ~;", "if true { } ~}", "if true { ~{ } }", "if true { ~else { } }", "if true { ~)",
		"if true { } else ~", "if true { } else ~keep;", "if true { } else ~if true { }", "if true { } else ~true { }", "if true { } else { ~", "if true { } else { keep; ~",
		"if true { } else { } ~else { }", "if true { } else { } ~elsif true { }", "if true { } elsif ~", "if true { } elsif ~{ }", "if true { } elsif true ~", "if true { } elsif true { ~",
		"if true { } elsif true { } else ~", "if true { } ~:else { }", `if true { } ~"else" { }`, "if true { } ~Else { }", "if true { } ~elseif { }", "if true { } keep; ~else { }",
		"if true { keep; } ~}",
	} {
		misfits(t, s)
	}
}

// P5.2: each test, and what stands behind it.
func TestTests(t *testing.T) {
	no := api.Test{Kind: api.False}
	parsesTest(t, "true", yes)
	parsesTest(t, "false", no)
	parsesTest(t, "not true", api.Test{Kind: api.Not, Tests: []api.Test{yes}})
	for word, kind := range map[string]int{"allof": api.AllOf, "anyof": api.AnyOf} {
		parsesTest(t, word+" (true)", api.Test{Kind: kind, Tests: []api.Test{yes}})
		parsesTest(t, word+" (true, false, true)", api.Test{Kind: kind, Tests: []api.Test{yes, no, yes}})
		parsesTest(t, word+" (allof (true), not false)", api.Test{Kind: kind, Tests: []api.Test{{Kind: api.AllOf, Tests: []api.Test{yes}}, {Kind: api.Not, Tests: []api.Test{no}}}})
		for _, s := range []string{
			" ~", " ~{", " ~true", " (~", " (~)", " (~, true)", " (~keep)", ` (~"true")`, " (true~", " (true ~true)", " (true ~;", " (true ~}", " (true ~]",
			" (true, ~", " (true, ~)", " (true, ~, true)", " (~(true))", " ~[true]", " ~:is (true)",
		} {
			misfitsTest(t, word+s)
		}
	}
	parsesTest(t, `exists "a"`, api.Test{Kind: api.Exists, Names: []string{"a"}})
	parsesTest(t, `exists ["a", "b"]`, api.Test{Kind: api.Exists, Names: []string{"a", "b"}})
	parsesTest(t, "size :over 0", api.Test{Kind: api.Size, Over: true})
	parsesTest(t, "size :over 2147483647", api.Test{Kind: api.Size, Over: true, Limit: api.MaxNumber})
	parsesTest(t, "size :under 1K", api.Test{Kind: api.Size, Limit: 1024})
	for _, s := range []string{
		"~", "~;", "~{", "~(", "~)", "~Not true", "~keep", "~if", "~else", `~"true"`, "~:true", "~1", "not ~", "not ~)", "not ~{", "not ~:is", "not ~keep", "not ~(true)",
		"exists ~", "exists ~:is", "exists ~a", "exists ~1", "exists ~{", "size ~", "size ~1", "size ~over 1", `size ~"over" 1`, "size ~:is 1", "size ~:Over 1", "size :over ~", `size :over ~"1"`,
		"size :over ~:under 1", "size :under ~:over", "size :over ~a", "size :over ~{", "size :under ~", "size :under ~;",
	} {
		misfitsTest(t, s)
	}
	for _, s := range []string{"true", "false", "not true", "allof (true)", `exists "a"`, "size :over 1", `header "a" "b"`, `address "a" "b"`, `envelope ["a"] ["b"]`} {
		for _, behind := range []string{"~", "~;", "~}", "~true", "~keep;", `~"c"`, "~:is", "~1", "~[", "~]", "~("} {
			misfits(t, "if "+s+" "+behind)
			misfits(t, "if true { } elsif "+s+" "+behind)
		}
		misfits(t, "if "+s+" ~,")
		misfits(t, "if "+s+" ~)")
		misfits(t, "if allof ("+s+" ~{")
	}
}

// P5.3: lists, wherever one stands.
func TestLists(t *testing.T) {
	for _, ahead := range []string{"require ", "setflag ", "addflag ", "if exists ", "if header ", "if address :is ", "if envelope :domain ", `if header "n" `, `if address ["n", "m"] `, `if envelope "n" `} {
		for _, s := range []string{
			"~", "~;", "~]", "~(", "~{", "~a", "~1", "[~", "[~]", `[~, "a"]`, "[~;", "[~a]", "[~1]", "[~:a]", `[~["a"]]`, `["a"~`, `["a" ~"b"]`, `["a" ~;`, `["a" ~)`, `["a" ~}`, `["a", ~`, `["a", ~]`,
			`["a", ~, "b"]`, `["a", ~b]`, `["a", "b" ~`, `["a", "b" ~:is`, `~("a")`,
		} {
			misfits(t, ahead+s)
		}
	}
	many := strings.Repeat(`"x", `, 100)
	parses(t, `require [`+many+`"y"];`, plain(api.Require, append(slices.Repeat([]string{"x"}, 100), "y")...))
	parsesTest(t, `header ["a", "b"] ["c"]`, api.Test{Kind: api.Header, Match: api.Is, Names: []string{"a", "b"}, Keys: []string{"c"}})
	parsesTest(t, `header "a" ["c", "", "c"]`, api.Test{Kind: api.Header, Match: api.Is, Names: []string{"a"}, Keys: []string{"c", "", "c"}})
}

// P5.4: tags in any order, each kind at most once.
func TestTags(t *testing.T) {
	matches := map[string]int{"": api.Is, ":is": api.Is, ":contains": api.Contains, ":matches": api.Matches}
	parts := map[string]int{"": api.All, ":all": api.All, ":localpart": api.Local, ":domain": api.Domain}
	for word, kind := range map[string]int{"address": api.Addr, "envelope": api.Envelope} {
		for m, match := range matches {
			for p, part := range parts {
				want := api.Test{Kind: kind, Match: match, Part: part, Names: []string{"n"}, Keys: []string{"k"}}
				parsesTest(t, word+" "+m+" "+p+` "n" "k"`, want)
				parsesTest(t, word+" "+p+" "+m+` ["n"] "k"`, want)
			}
		}
		twice(t, word, matches)
		twice(t, word, parts)
	}
	for m, match := range matches {
		parsesTest(t, "header "+m+` "n" "k"`, api.Test{Kind: api.Header, Match: match, Names: []string{"n"}, Keys: []string{"k"}})
		for p := range parts {
			if p != "" {
				misfitsTest(t, "header "+m+" ~"+p+` "n" "k"`)
			}
		}
	}
	twice(t, "header", matches)
	for _, word := range []string{"header", "address", "envelope"} {
		for _, s := range []string{
			"~", "~:over", "~:Is", "~:local", "~:IS", "~:header", "~is", "~;", "~{", "~1", ":is ~", ":is ~is", ":contains ~;", ":is ~:over", `"n" ~`, `"n" ~:is "k"`, `"n" ~:all "k"`, `"n" ~;`, `"n" ~{`, `"n" ~, "k"`, `:is "n" ~`,
			`:is "n" ~1`, `:matches ["n"] ~:matches`, `"n" "k" ~:is`,
		} {
			misfitsTest(t, word+" "+s)
		}
	}
}

// twice: no tag stands behind one of the same kind, were they alike or not.
func twice(t *testing.T, word string, tags map[string]int) {
	t.Helper()
	for a := range tags {
		for b := range tags {
			if a == "" || b == "" {
				continue
			}
			misfitsTest(t, word+" "+a+" ~"+b+` "n" "k"`)
			if word != "header" && tags[":is"] != 0 {
				misfitsTest(t, word+" "+a+" :domain ~"+b+` "n" "k"`)
				misfitsTest(t, word+" :all "+a+" ~"+b+` "n" "k"`)
			}
		}
	}
}

// P5.5: too many tokens, then each token by itself, then all together.
func TestTokensFirst(t *testing.T) {
	full := slices.Repeat(tokens(t, "keep;"), api.MaxTokens/2)
	parses(t, strings.Repeat("keep;", api.MaxTokens/2), slices.Repeat([]api.Command{plain(api.Keep)}, api.MaxTokens/2)...)
	stumbles(t, full[1:], 0, api.ErrForm)
	stumbles(t, full[:api.MaxTokens-1], api.MaxTokens-1, api.ErrShort)
	for _, more := range [][]api.Token{full[:1], full[:2], full, {{}}, {{Kind: 9}}} {
		stumbles(t, slices.Concat(full, more), 0, api.ErrFull)
		stumbles(t, slices.Concat(more, full), 0, api.ErrFull)
	}
	for _, c := range []struct {
		bad  api.Token
		want api.Errno
	}{
		{api.Token{}, api.ErrKind}, {api.Token{Kind: 6, Text: "keep"}, api.ErrKind}, {api.Token{Kind: -1}, api.ErrKind}, {api.Token{Kind: api.Number, Number: -1}, api.ErrRange},
		{api.Token{Kind: api.Number, Number: api.MaxNumber + 1}, api.ErrRange}, {api.Token{Kind: api.Number, Text: "1"}, api.ErrForm}, {api.Token{Kind: api.Word, Text: ""}, api.ErrForm},
		{api.Token{Kind: api.Word, Text: "keep", Number: 1}, api.ErrForm}, {api.Token{Kind: api.Tag, Text: ":is"}, api.ErrForm}, {api.Token{Kind: api.Mark, Text: "<"}, api.ErrForm},
		{api.Token{Kind: api.String, Text: "a", Number: 2}, api.ErrForm},
	} {
		stumbles(t, []api.Token{c.bad}, 0, c.want)
		for _, ahead := range []string{"keep;", "keep", "else else else", "; ; 1", "if if", strings.Repeat("not ", 20), strings.Repeat("if true { ", 8), "} "} {
			a := tokens(t, ahead)
			for at := range len(a) + 1 {
				l := slices.Concat(a[:at], []api.Token{c.bad}, a[at:])
				stumbles(t, l, at, c.want)
				stumbles(t, slices.Concat(l, []api.Token{{Kind: 7}, {Kind: api.Number, Number: -7}}), at, c.want)
			}
		}
		stumbles(t, slices.Concat(full[:api.MaxTokens-1], []api.Token{c.bad}), api.MaxTokens-1, c.want)
	}
}

// P5.5: commands that are as deep as can be, and deeper.
func TestDeepCommands(t *testing.T) {
	deep := strings.Repeat("if true { ", api.MaxNest)
	ends := strings.Repeat("} ", api.MaxNest)
	nested := func(c api.Command) api.Command {
		for range api.MaxNest {
			c = when(yes, c)
		}
		return c
	}
	at := len(tokens(t, deep))
	parses(t, deep+"keep; "+ends, nested(plain(api.Keep)))
	stumbles(t, tokens(t, deep), at, api.ErrShort)
	stumbles(t, tokens(t, deep+";"), at, api.ErrForm)
	stumbles(t, tokens(t, deep+"if true"), at+2, api.ErrShort)
	no := api.Test{Kind: api.False}
	for _, c := range []struct {
		block string
		want  api.Command
	}{
		{"if true { ", when(yes)},
		{"if true { } else { ", when(yes)},
		{"if true { } elsif false { ", either(yes, nil, when(no))},
		{"if true { } elsif false { } else { ", either(yes, nil, when(no))},
	} {
		place := at + len(tokens(t, c.block))
		parses(t, deep+c.block+"} "+ends, nested(c.want))
		// The block's end may stand where the tokens end, so nothing there is too deep.
		stumbles(t, tokens(t, deep+c.block), place, api.ErrShort)
		for _, s := range []string{"keep; }", "keep", "if true { } }", "if", "else", ";", "{", `"a"`, "1", ")", "]", ":is"} {
			stumbles(t, tokens(t, deep+c.block+s), place, api.ErrSize)
			stumbles(t, tokens(t, deep+c.block+s+ends), place, api.ErrSize)
		}
	}
	// However many of the blocks are open where the tokens end, the tokens are too short.
	whole := tokens(t, deep+"if true { } "+ends)
	for n := 1; n < len(whole); n++ {
		stumbles(t, whole[:n], n, api.ErrShort)
	}
	stumbles(t, tokens(t, deep+"if true { } }"+ends), at+len(tokens(t, "if true { } }"+ends))-1, api.ErrForm)
	chain, want := "if true { } ", when(yes)
	for range 70 {
		chain += "elsif true { } "
		want = either(yes, nil, want)
	}
	parses(t, chain, want)
	parses(t, deep+chain+ends, nested(want))
	stumbles(t, tokens(t, deep+"if true { } elsif true { keep; }"+ends), at+7, api.ErrSize)
	stumbles(t, tokens(t, "if true { } else { "+deep+"keep;"+ends+"}"), 6+at, api.ErrSize)
	parses(t, "if true { } else { "+strings.Replace(deep, "if true { ", "", 1)+"keep;"+ends, either(yes, nil, nested(plain(api.Keep)).Then...))
}

// P5.5: tests that are as deep as can be, and deeper, however deep their command is.
func TestDeepTests(t *testing.T) {
	for _, ahead := range []string{"if ", "if true { } elsif ", strings.Repeat("if true { ", api.MaxNest) + "if "} {
		at := len(tokens(t, ahead))
		for _, wrap := range []string{"not ", "allof (", "anyof (true, "} {
			n := len(tokens(t, wrap))
			most := api.MaxNest - 1
			stumbles(t, tokens(t, ahead+strings.Repeat(wrap, most)), at+most*n, api.ErrShort)
			stumbles(t, tokens(t, ahead+strings.Repeat(wrap, most)+";"), at+most*n, api.ErrForm)
			stumbles(t, tokens(t, ahead+strings.Repeat(wrap, most)+"true"), at+most*n+1, api.ErrShort)
			// A list's first test comes first: the place is that of the first one that is too deep.
			first := at + most*n + min(n, 2)
			for _, s := range []string{"true", "", ";", "not", ")", "{", "1", "keep"} {
				stumbles(t, tokens(t, ahead+strings.Repeat(wrap, most+1)+s), first, api.ErrSize)
			}
		}
	}
	five := strings.Repeat("not ", api.MaxNest-1)
	want := yes
	for range api.MaxNest - 1 {
		want = api.Test{Kind: api.Not, Tests: []api.Test{want}}
	}
	parses(t, "if "+five+"true { }", when(want))
	parses(t, "if allof ("+five[len("not "):]+"true, true) { }", when(api.Test{Kind: api.AllOf, Tests: []api.Test{want.Tests[0], yes}}))
	stumbles(t, tokens(t, "if allof (true, "+five+"true) { }"), 5+len(tokens(t, five)), api.ErrSize)
}
