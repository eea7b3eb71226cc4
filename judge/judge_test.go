package judge_test

import (
	"fmt"
	"slices"
	"strings"
	"testing"

	"postroom/api"
	"postroom/judge"
	"postroom/rule"
)

// All that may be required, as a script.
const all = `require ["fileinto", "reject", "envelope", "imap4flags"]; `

// All flags together.
const allFlags = 31

var (
	ann = api.Address{Local: "ann", Domain: "y.org"}
	joe = api.Address{Local: "Joe", Domain: "z"}
)

// text of so many bytes.
func text(n int) string { return strings.Repeat("a", n) }

// letterOf a text, from joe to ann.
func letterOf(s string) api.Letter { return api.Letter{From: joe, To: ann, Text: s} }

// lines, with their ends.
func lines(l ...string) string { return strings.Join(l, "\r\n") + "\r\n" }

// read a script that is allowed, with all that may be required.
func read(t *testing.T, s string) []api.Command {
	t.Helper()
	l, e := rule.Read(all + s)
	if e != api.OK {
		t.Fatalf("Read(%q): %v", s, e)
	}
	return l
}

// testOf its text.
func testOf(t *testing.T, s string) api.Test {
	t.Helper()
	return read(t, "if "+s+" {}")[1].Test
}

// commandOf its text.
func commandOf(t *testing.T, s string) api.Command {
	t.Helper()
	return read(t, s)[1]
}

// command of a kind, with its texts.
func command(kind int, texts ...string) api.Command {
	return api.Command{Kind: kind, Texts: texts}
}

// brief: a value as it is told, but not at length.
func brief(v any) string {
	s := fmt.Sprintf("%+v", v)
	return s[:min(len(s), 300)]
}

// sameCourse: lists without elements are the same, be they nil or not.
func sameCourse(a, b api.Course) bool {
	return slices.Equal(a.Actions, b.Actions) && a.Flags == b.Flags && a.Asked == b.Asked && a.Fault == b.Fault
}

// wrongAddresses: each with what is told of it.
func wrongAddresses() map[api.Address]api.Errno {
	return map[api.Address]api.Errno{
		{}: api.ErrForm, {Local: "a"}: api.ErrForm, {Domain: "b"}: api.ErrForm, {Local: "a.", Domain: "b"}: api.ErrForm, {Local: "a", Domain: "b c"}: api.ErrForm,
		{Local: text(50), Domain: text(50)}: api.ErrSize, {Local: "a", Domain: text(99)}: api.ErrSize, {Local: text(5000), Domain: "b"}: api.ErrSize,
	}
}

// wrongTexts: each with what is told of it.
func wrongTexts() map[string]api.Errno {
	return map[string]api.Errno{
		"": api.ErrShort, "\r": api.ErrShort, "a: b\r\n": api.ErrShort, "a: b\n\n": api.ErrShort, "a\r\n\r\n": api.ErrForm, " a: b\r\n\r\n": api.ErrForm, ": b\r\n\r\n": api.ErrForm,
		strings.Repeat("a: b\r\n", 31) + "\r\n": api.ErrFull, "\r\n" + text(1999): api.ErrSize, text(5000): api.ErrSize,
	}
}

// checks that Check tells this error, and no message with it.
func checks(t *testing.T, want api.Errno, l api.Letter) {
	t.Helper()
	if m, e := judge.Check(l); e != want || (e != api.OK && (len(m.Fields) > 0 || m.Body != "")) {
		t.Errorf("Check(%.80q) = %.80q, %v; want %v", l, m, e, want)
	}
}

// P7.1: the message of a letter's Text.
func TestCheck(t *testing.T) {
	for _, c := range []struct {
		text   string
		body   string
		fields []api.Field
	}{
		{"\r\n", "", nil},
		{"\r\nhello", "hello", nil},
		{"\r\n\r\nhello\r\n", "\r\nhello\r\n", nil},
		{"s: t\r\n\r\nhello", "hello", []api.Field{{Name: "s", Value: "t"}}},
		{"S:t\r\n u \r\nS: \r\n\r\na: b\r\n", "a: b\r\n", []api.Field{{Name: "S", Value: "t u"}, {Name: "S"}}},
		{"\r\n" + text(1998), text(1998), nil},
		{"s:" + text(1994) + "\r\n\r\n", "", []api.Field{{Name: "s", Value: text(1994)}}},
	} {
		m, e := judge.Check(letterOf(c.text))
		if e != api.OK || m.Body != c.body || !slices.Equal(m.Fields, c.fields) {
			t.Errorf("Check(%.60q) = %.60q, %v; want %.60q, %.60q", c.text, m, e, c.fields, c.body)
		}
	}
	checks(t, api.OK, api.Letter{From: api.Address{Local: text(50), Domain: text(49)}, To: api.Address{Local: "a", Domain: text(98)}, Text: "\r\n"})
}

// P7.1: what is refused of From, then of To, then of the Text.
func TestCheckRefuses(t *testing.T) {
	for s, e := range wrongTexts() {
		checks(t, e, letterOf(s))
	}
	for a, e := range wrongAddresses() {
		checks(t, e, api.Letter{From: a, To: ann, Text: "\r\n"})
		checks(t, e, api.Letter{From: joe, To: a, Text: "\r\n"})
		for b := range wrongAddresses() {
			checks(t, e, api.Letter{From: a, To: b, Text: "\r\n"})
		}
		for s := range wrongTexts() {
			checks(t, e, api.Letter{From: a, To: ann, Text: s})
			checks(t, e, api.Letter{From: joe, To: a, Text: s})
		}
	}
	checks(t, api.ErrForm, api.Letter{})
}
