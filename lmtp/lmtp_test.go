package lmtp_test

import (
	"fmt"
	"slices"
	"strings"
	"testing"

	"postroom/api"
	"postroom/lmtp"
)

// known locals of users.
var known = []string{"ann", "bob", "cid"}

// address of its two parts.
func address(local, domain string) api.Address { return api.Address{Local: local, Domain: domain} }

// What sessions are made of.
var (
	joe = address("joe", "z")
	ann = address("ann", "y")
	bob = address("bob", "y")
	cid = address("cid", "y")
)

// at a Step, with nothing else.
func at(step int) api.Session { return api.Session{Step: step} }

// from joe: who sends is known.
func from() api.Session { return api.Session{Step: api.Sender, From: joe} }

// to some: to whom it goes is known.
func to(l ...api.Address) api.Session { return api.Session{Step: api.Rcpt, From: joe, To: l} }

// body of a letter to some, so far.
func body(text string, l ...api.Address) api.Session {
	return api.Session{Step: api.Body, From: joe, To: l, Text: text}
}

// large letter, of which this much was kept.
func large(text string, l ...api.Address) api.Session {
	s := body(text, l...)
	s.Large = true
	return s
}

// five to whom a letter goes: there are no more.
func five() []api.Address {
	return []api.Address{ann, bob, cid, address("ann", "a.b"), address("ann", "Y")}
}

// letters with a text, from joe to some.
func letters(text string, l ...api.Address) []api.Letter {
	var out []api.Letter
	for _, a := range l {
		out = append(out, api.Letter{From: joe, To: a, Text: text})
	}
	return out
}

// every session here may be: one or more of each Step.
func every() []api.Session {
	return []api.Session{
		at(api.Fresh), at(api.Ready), from(), to(ann), to(ann, bob), to(five()...), body("", ann), body("a: b\r\n\r\n", bob, ann), body(strings.Repeat("x", api.MaxText), five()...),
		large("", ann), large("a: b\r\n", bob, cid), at(api.Over),
	}
}

// commanded: those of them for which a line is a command.
func commanded() []api.Session {
	return slices.DeleteFunc(every(), func(s api.Session) bool { return s.Step >= api.Body })
}

// short: the beginning of what a value is told as.
func short(v any) string {
	s := strings.ToValidUTF8(fmt.Sprintf("%+q", v), "?")
	return s[:min(len(s), 400)]
}

// same sessions: a list without elements may be nil or not.
func same(a, b api.Session) bool {
	return a.Step == b.Step && a.From == b.From && slices.Equal(a.To, b.To) && a.Text == b.Text && a.Large == b.Large
}

// goes: Line answers this session, this code and these letters.
func goes(t *testing.T, s api.Session, line string, want api.Session, code int, l ...api.Letter) {
	t.Helper()
	goesFor(t, s, known, line, want, code, l...)
}

// goesFor others that are known.
func goesFor(t *testing.T, s api.Session, known []string, line string, want api.Session, code int, l ...api.Letter) {
	t.Helper()
	next, told, handed, e := lmtp.Line(s, known, line)
	if e != api.OK || told != code || !same(next, want) || !slices.Equal(handed, l) {
		t.Errorf("Line(%s, %.80q, %.80q) = %s, %d, %s, %d; want %s, %d, %s, 0", short(s), known, line, short(next), told, short(handed), e, short(want), code, short(l))
	}
	if e := lmtp.Check(next); e != api.OK {
		t.Errorf("Line(%s, %.80q, %.80q) = %s, which Check refuses with %d", short(s), known, line, short(next), e)
	}
}

// stays: the line just tells this code.
func stays(t *testing.T, s api.Session, line string, code int) {
	t.Helper()
	goes(t, s, line, s, code)
}

// follow lines of a session that begins: all codes that are told, and all letters that are handed over.
func follow(t *testing.T, lines ...string) (api.Session, []int, []api.Letter) {
	t.Helper()
	var s api.Session
	var codes []int
	var all []api.Letter
	for _, line := range lines {
		next, code, l, e := lmtp.Line(s, known, line)
		if e != api.OK {
			t.Fatalf("Line(%s, %q) = %v", short(s), line, e)
		}
		s, codes, all = next, append(codes, code), append(all, l...)
	}
	return s, codes, all
}

// A whole session, as it mostly goes.
func TestWholeSession(t *testing.T) {
	s, codes, l := follow(t, "LHLO a", "MAIL FROM:<joe@z>", "RCPT TO:<ann@y>", "RCPT TO:<dan@y>", "RCPT TO:<bob@y>", "DATA", "s: t", "", "..", "hello", ".",
		"MAIL FROM:<bob@y>", "RCPT TO:<cid@y>", "DATA", ".", "NOOP", "QUIT", "NOOP", ".", "LHLO a")
	if !same(s, at(api.Over)) {
		t.Errorf("at last: %s", short(s))
	}
	if want := []int{250, 250, 250, 550, 250, 354, 0, 0, 0, 0, 0, 250, 250, 354, 0, 250, 221, 0, 0, 0}; !slices.Equal(codes, want) {
		t.Errorf("codes %v; want %v", codes, want)
	}
	want := append(letters("s: t\r\n\r\n.\r\nhello\r\n", ann, bob), api.Letter{From: bob, To: cid})
	if !slices.Equal(l, want) {
		t.Errorf("letters %s; want %s", short(l), short(want))
	}
}

// Letters come just from sessions that have told who they are, who sends, and to whom.
func TestNothingLeftOut(t *testing.T) {
	lines := []string{"LHLO a", "MAIL FROM:<joe@z>", "RCPT TO:<ann@y>", "DATA", "."}
	for left := range lines {
		kept := slices.Delete(slices.Clone(lines), left, left+1)
		if _, codes, l := follow(t, kept...); len(l) != 0 {
			t.Errorf("without %q: codes %v, letters %s", lines[left], codes, short(l))
		}
	}
	if _, codes, l := follow(t, lines...); !slices.Equal(l, letters("", ann)) {
		t.Errorf("codes %v, letters %s", codes, short(l))
	}
	// A session that told who sends, and then began anew, has told nobody to whom.
	if _, codes, l := follow(t, "LHLO a", "MAIL FROM:<joe@z>", "RCPT TO:<ann@y>", "LHLO a", "DATA", "."); len(l) != 0 {
		t.Errorf("behind a second LHLO: codes %v, letters %s", codes, short(l))
	}
}
