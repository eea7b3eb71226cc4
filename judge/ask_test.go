package judge_test

import (
	"slices"
	"strings"
	"testing"

	"postroom/api"
	"postroom/judge"
	"postroom/letter"
)

// asks: what a test tells of a letter.
func asks(t *testing.T, want bool, x api.Test, l api.Letter) {
	t.Helper()
	if got, e := judge.Ask(x, l); got != want || e != api.OK {
		t.Errorf("Ask(%s, %s) = %v, %v; want %v", brief(x), brief(l), got, e, want)
	}
}

// asksText: what a test, of its text, tells of a letter, and what the other way round it does.
func asksText(t *testing.T, want bool, s string, l api.Letter) {
	t.Helper()
	x := testOf(t, s)
	asks(t, want, x, l)
	asks(t, !want, api.Test{Kind: api.Not, Tests: []api.Test{x}}, l)
}

// refuses a test: with this error, and false.
func refuses(t *testing.T, want api.Errno, x api.Test, l api.Letter) {
	t.Helper()
	if got, e := judge.Ask(x, l); got || e != want {
		t.Errorf("Ask(%s, %s) = %v, %v; want %v", brief(x), brief(l), got, e, want)
	}
}

// P7.2: True, False, and tests with others in them.
func TestLogic(t *testing.T) {
	l := letterOf("\r\n")
	for s, want := range map[string]bool{
		"true": true, "false": false, "not true": false, "not not true": true, "not not not not not true": false,
		"allof (true)": true, "allof (false)": false, "anyof (true)": true, "anyof (false)": false,
		"allof (true, true, true)": true, "allof (false, true, true)": false, "allof (true, false, true)": false, "allof (true, true, false)": false,
		"anyof (false, false, false)": false, "anyof (true, false, false)": true, "anyof (false, true, false)": true, "anyof (false, false, true)": true,
		"anyof (allof (true, false), allof (true, not false))": true, "allof (anyof (true, false), not anyof (true, false))": false,
		"allof (not allof (true, false), anyof (not true, allof (true, true)))": true,
	} {
		x := testOf(t, s)
		asks(t, want, x, l)
	}
}

// P7.2: Exists.
func TestExists(t *testing.T) {
	l := letterOf(lines("Subject: work", "TO: ann", "empty:", "to: joe", "", "Body: b"))
	for s, want := range map[string]bool{
		`"subject"`: true, `"SUBJECT"`: true, `"sUbject"`: true, `"to"`: true, `"Empty"`: true, `["to", "subject"]`: true, `["to", "To", "empty", "subject"]`: true,
		`"body"`: false, `""`: false, `"subjec"`: false, `"subject "`: false, `"subject:"`: false, `"*"`: false, `"t?"`: false, `["to", "cc"]`: false, `["cc", "to"]`: false, `["cc", "bcc"]`: false,
		`["to", "subject", "cc", "empty"]`: false,
	} {
		asksText(t, want, "exists "+s, l)
	}
	asksText(t, false, `exists "a"`, letterOf("\r\na: b\r\n\r\n"))
	long := letterOf(lines(text(100)+": x", strings.Repeat("b", 101)+": y", "", ""))
	asks(t, true, api.Test{Kind: api.Exists, Names: []string{text(100)}}, long)
	asks(t, false, api.Test{Kind: api.Exists, Names: []string{strings.Repeat("b", 100)}}, long)
}

// P7.2: Size, by the bytes of the whole Text.
func TestSize(t *testing.T) {
	for _, s := range []string{"\r\n", "\r\n\xff\xfe", "a: b\r\n\r\nä", "a:b\r\n c\r\n\r\n" + text(500), "\r\n" + text(1998)} {
		l, n := letterOf(s), len(s)
		for _, limit := range []int{0, 1, n - 1, n, n + 1, 2000, 2001, api.MaxNumber} {
			asks(t, n > limit, api.Test{Kind: api.Size, Over: true, Limit: limit}, l)
			asks(t, n < limit, api.Test{Kind: api.Size, Limit: limit}, l)
		}
	}
	asksText(t, false, "size :over 1K", letterOf("\r\n"+text(1022)))
	asksText(t, true, "size :over 1K", letterOf("\r\n"+text(1023)))
}

// P7.2: Header.
func TestHeader(t *testing.T) {
	l := letterOf(lines("Subject: Work is done", "X:", "subject: *o*", "To: a,", "\tb ", "", "subject: body"))
	for s, want := range map[string]bool{
		`"subject" "Work is done"`: true, `"SUBJECT" "wORK IS DONE"`: true, `:is "subject" "*O*"`: true, `:is "subject" "work"`: false, `"subject" "body"`: false, `"subject" ""`: false,
		`"subject" ["a", "b", "*o*"]`: true, `"subject" ["a", "b"]`: false, `["a", "subject"] ["b", "work is done"]`: true, `["subject", "a"] ["*o*", "b"]`: true, `["x", "to"] "*o*"`: false,
		`"x" ""`: true, `:contains "x" ""`: true, `:matches "x" ""`: true, `:matches "x" "*"`: true, `:matches "x" "?"`: false, `"x" " "`: false,
		`:contains "subject" "IS"`: true, `:contains "subject" "*"`: true, `:contains "subject" "w*k"`: false, `:contains "subject" "worked"`: false, `:contains "subject" "is  done"`: false,
		`:matches "subject" "w*e"`: true, `:matches "subject" "w*k"`: false, `:matches "subject" "\\*O\\*"`: true, `:matches "subject" "?o?"`: true, `:matches "subject" ["x", "work ?? done"]`: true,
		`"to" "a,	b"`: true, `"to" "a, b"`: false, `:matches "to" "a?b"`: false, `:matches "to" "a,?b"`: true,
		`"cc" ""`: false, `:contains "cc" ""`: false, `:matches "cc" "*"`: false, `:contains ["cc", "x"] ""`: true, `:matches "*" "*"`: false, `"" ""`: false,
		`["cc", "x", "to", "subject"] ["k", "l", "m"]`: false,
	} {
		asksText(t, want, "header "+s, l)
	}
	value := strings.Repeat("xy", 900)
	long := letterOf(lines("s: "+value, "", ""))
	asks(t, true, api.Test{Kind: api.Header, Match: api.Contains, Names: []string{"S"}, Keys: []string{text(100), value[:100]}}, long)
	asks(t, false, api.Test{Kind: api.Header, Match: api.Is, Names: []string{"S"}, Keys: []string{value[:100]}}, long)
}

// P7.2: Addr.
func TestAddress(t *testing.T) {
	l := letterOf(lines("From: Joe <Joe@Z.org>", "to: a@b, \"X, y\" <c.d@e>,", " f@g", "To: h@i", "Cc: nobody", "bcc: j@k, l", "x: "+strings.Repeat("m@n,", 19)+"o@p", "y: "+strings.Repeat("m@n,", 20)+"o@p", "z:", "", ""))
	for s, want := range map[string]bool{
		`"from" "joe@z.org"`: true, `:all "FROM" "JOE@z.org"`: true, `:localpart "from" "joe"`: true, `:domain "from" "Z.ORG"`: true, `:localpart "from" "joe@z.org"`: false, `:domain "from" "joe"`: false,
		`"from" "Joe <Joe@Z.org>"`: false, `:contains "from" "<"`: false, `:contains :localpart "from" "o"`: true, `:contains :localpart "from" "z"`: false, `:matches :domain "from" "*.org"`: true,
		`:matches "from" "*@*"`: true, `:matches "from" "*@?"`: false, `:localpart "from" ["x", "y", "JOE"]`: true, `:localpart "from" ["x", "y"]`: false,
		`"to" "a@b"`: true, `"to" "c.d@e"`: true, `"to" "f@g"`: true, `"to" "h@i"`: true, `"to" "j@k"`: false, `:contains "to" "x"`: false, `:contains "to" ","`: false, `:localpart "to" "c.d"`: true,
		`:contains "cc" ""`: false, `:contains "cc" "nobody"`: false, `:contains "bcc" ""`: false, `:matches "bcc" "*"`: false, `["cc", "bcc", "to"] "h@i"`: true, `["to", "cc"] "x@y"`: false,
		`"x" "o@p"`: true, `"x" "m@n"`: true, `:contains "y" ""`: false, `:contains "z" ""`: false, `:contains "none" ""`: false, `:contains "*" ""`: false,
	} {
		asksText(t, want, "address "+s, l)
	}
}

// P7.2: Envelope: From and To, whatever stands in the message.
func TestEnvelope(t *testing.T) {
	l := letterOf(lines("From: a@b", "To: c@d", "", ""))
	for s, want := range map[string]bool{
		`"from" "joe@z"`: true, `:all "from" "JOE@Z"`: true, `"from" "a@b"`: false, `:localpart "from" "joe"`: true, `:localpart "from" "z"`: false, `:domain "from" "z"`: true, `:domain "from" "joe"`: false,
		`"from" "ann@y.org"`: false, `"to" "joe@z"`: false, `"to" "ann@y.org"`: true, `:localpart "to" "Ann"`: true, `:domain "to" "Y.ORG"`: true, `:domain :contains "to" "org"`: true, `:domain :matches "to" "?.*"`: true,
		`:domain "to" "org"`: false, `["from", "to"] "joe@z"`: true, `["from", "to"] "ann@y.org"`: true, `["to", "from"] "joe@z"`: true, `["to", "from", "to"] "c@d"`: false, `"to" ["x", "ann@y.org"]`: true,
		`"to" ["x", "joe@z"]`: false, `:contains "from" ""`: true, `:contains "from" "@"`: true, `:contains :localpart "from" "@"`: false,
	} {
		asksText(t, want, "envelope "+s, l)
	}
}

// P7.2: a letter that may be, with a message that would be too long if it were shown: it has its fields all the same.
func TestUnshownMessage(t *testing.T) {
	for _, s := range []string{"s:t@u\r\n\r\n" + text(1991), "s:t@u\r\nx:" + text(1987) + "\r\n\r\n"} {
		l := letterOf(s)
		m, e := judge.Check(l)
		if e != api.OK || len(s) != api.MaxText || letter.Check(m) != api.ErrSize {
			t.Fatalf("Check(%.60q) = %v; %d bytes", s, e, len(s))
		}
		asksText(t, true, `exists "s"`, l)
		asksText(t, true, `header "s" "t@u"`, l)
		asksText(t, true, `address :domain "s" "u"`, l)
		asksText(t, false, `exists "t"`, l)
		asksText(t, false, `header :contains "s" "a"`, l)
	}
}

// nots: so many, one in the other, and a test in all of them.
func nots(n int, x api.Test) api.Test {
	for range n {
		x = api.Test{Kind: api.Not, Tests: []api.Test{x}}
	}
	return x
}

// wrongTests: each with what is told of it.
func wrongTests() []struct {
	x    api.Test
	want api.Errno
} {
	from, k := []string{"from"}, []string{"k"}
	yes := api.Test{Kind: api.True}
	return []struct {
		x    api.Test
		want api.Errno
	}{
		{api.Test{}, api.ErrKind}, {api.Test{Kind: -1}, api.ErrKind}, {api.Test{Kind: 11}, api.ErrKind}, {api.Test{Kind: 1 << 62, Limit: -1}, api.ErrKind}, {nots(5, api.Test{}), api.ErrKind},
		{nots(6, yes), api.ErrSize}, {nots(60000, yes), api.ErrSize}, {nots(6, api.Test{Kind: api.Not}), api.ErrSize},
		{api.Test{Kind: api.Not}, api.ErrForm}, {api.Test{Kind: api.Not, Tests: []api.Test{yes, yes}}, api.ErrForm}, {api.Test{Kind: api.AllOf}, api.ErrForm}, {api.Test{Kind: api.AnyOf}, api.ErrForm},
		{api.Test{Kind: api.True, Limit: 1}, api.ErrForm}, {api.Test{Kind: api.Exists}, api.ErrForm}, {api.Test{Kind: api.Size, Limit: -1}, api.ErrForm}, {api.Test{Kind: api.Size, Limit: api.MaxNumber + 1}, api.ErrForm},
		{api.Test{Kind: api.Header, Match: api.Is, Names: from}, api.ErrForm}, {api.Test{Kind: api.Header, Names: from, Keys: k}, api.ErrForm}, {api.Test{Kind: api.Header, Match: 4, Names: from, Keys: k}, api.ErrForm},
		{api.Test{Kind: api.Header, Match: api.Is, Part: api.All, Names: from, Keys: k}, api.ErrForm}, {api.Test{Kind: api.Addr, Match: api.Is, Names: from, Keys: k}, api.ErrForm},
		{api.Test{Kind: api.Addr, Match: api.Is, Part: 4, Names: from, Keys: k}, api.ErrForm}, {api.Test{Kind: api.Envelope, Match: api.Is, Part: api.All, Keys: k}, api.ErrForm},
		{api.Test{Kind: api.Envelope, Match: api.Is, Part: api.All, Names: []string{"From"}, Keys: k}, api.ErrNone}, {api.Test{Kind: api.Envelope, Match: api.Is, Part: api.All, Names: []string{"to", "cc"}, Keys: k}, api.ErrNone},
		{api.Test{Kind: api.Envelope, Match: api.Is, Part: api.All, Names: from, Keys: []string{text(101)}}, api.ErrSize}, {api.Test{Kind: api.Exists, Names: []string{"a", text(101)}}, api.ErrSize},
		{api.Test{Kind: api.Header, Match: api.Is, Names: from, Keys: []string{text(101)}}, api.ErrSize}, {api.Test{Kind: api.AnyOf, Tests: []api.Test{yes, {Kind: api.Exists, Names: []string{text(101)}}}}, api.ErrSize},
		{api.Test{Kind: api.Exists, Names: slices.Repeat(k, 197)}, api.ErrFull}, {api.Test{Kind: api.AnyOf, Tests: slices.Repeat([]api.Test{yes}, 200)}, api.ErrFull},
	}
}

// P7.2: what is refused of the test, then of the letter.
func TestAskRefuses(t *testing.T) {
	good := letterOf("\r\n")
	for _, w := range wrongTests() {
		refuses(t, w.want, w.x, good)
		refuses(t, w.want, w.x, api.Letter{})
		refuses(t, w.want, w.x, letterOf(""))
	}
	for _, x := range []api.Test{{Kind: api.True}, {Kind: api.Size, Limit: 1}, testOf(t, `exists "a"`), testOf(t, `not envelope "to" "a"`)} {
		for s, e := range wrongTexts() {
			refuses(t, e, x, letterOf(s))
		}
		for a, e := range wrongAddresses() {
			refuses(t, e, x, api.Letter{From: a, To: ann, Text: "\r\n"})
			refuses(t, e, x, api.Letter{From: joe, To: a})
		}
	}
}

// P7.2: as many tokens as can be, with a Require of one thing, and an If with nothing to do.
func TestAskFull(t *testing.T) {
	l := letterOf("\r\n")
	// The Require has 3 tokens, the If 3, `exists`, `[` and `]` 3, and n names 2n - 1.
	for n := 190; n < 200; n++ {
		x := api.Test{Kind: api.Exists, Names: slices.Repeat([]string{"a"}, n)}
		if 3+3+3+2*n-1 > api.MaxTokens {
			refuses(t, api.ErrFull, x, l)
		} else {
			asks(t, false, x, l)
		}
	}
}

// P7.2: tests that are as deep as may be.
func TestAskDeep(t *testing.T) {
	for n := range 5 {
		asks(t, n%2 == 0, nots(n, api.Test{Kind: api.True}), letterOf("\r\n"))
	}
	asks(t, false, nots(5, api.Test{Kind: api.True}), letterOf("\r\n"))
}

// Names and keys that come again and again, and patterns of many stars, take no long time.
func TestAskManyTimes(t *testing.T) {
	stars := strings.Repeat("*a", 49) + "*b"
	l := letterOf("s: " + text(1900) + "\r\n\r\n")
	asks(t, false, api.Test{Kind: api.Header, Match: api.Matches, Names: slices.Repeat([]string{"s"}, 95), Keys: slices.Repeat([]string{stars}, 95)}, l)
}
