package deliver_test

import (
	"slices"
	"strings"
	"testing"

	"postroom/api"
	"postroom/box"
	"postroom/deliver"
)

// mails with the Uids from 1 on, each of so many bytes.
func mails(many, size int) []api.Mail {
	var l []api.Mail
	for i := range many {
		l = append(l, mail(i+1, 0, strings.Repeat("m", size)))
	}
	return l
}

// wrongStates, each for something else.
func wrongStates() []api.State {
	six := stateOf(boxOf("INBOX", 1), boxOf("a", 1), boxOf("b", 1), boxOf("c", 1), boxOf("d", 1), boxOf("e", 1))
	return []api.State{
		six,
		stateOf(boxOf("INBOX", 1), boxOf("INBOX", 1)),
		stateOf(boxOf("INBOX", 0)),
		stateOf(boxOf("INBOX", api.MaxUid+2)),
		stateOf(boxOf("INBOX", 1), boxOf("", 1)),
		stateOf(boxOf("INBOX", 1), boxOf("thirteenbytes", 1)),
		stateOf(boxOf("INBOX", 1), boxOf("a b", 1)),
		stateOf(boxOf("INBOX", 1, mail(1, 0, ""))),
		stateOf(boxOf("INBOX", 3, mail(2, 0, ""), mail(1, 0, ""))),
		stateOf(boxOf("INBOX", 2, mail(1, 32, ""))),
		stateOf(boxOf("INBOX", 2, mail(1, -1, ""))),
		stateOf(boxOf("INBOX", 2, mail(1, 0, text(api.MaxText+1)))),
		stateOf(boxOf("INBOX", 32, mails(31, 1)...)),
		stateOf(boxOf("INBOX", 5, mails(4, 1501)...)),
		{Boxes: rooms().Boxes, Spool: slices.Repeat([]api.Entry{spool("a@b", "")}, api.MaxSpool+1)},
		{Boxes: rooms().Boxes, Spool: []api.Entry{add("INBOX", 0, "")}},
		{Boxes: rooms().Boxes, Spool: []api.Entry{spool("a", "")}},
		{Boxes: rooms().Boxes, Spool: []api.Entry{{}}},
	}
}

// refusal: a script or letter, and the error that tells what is wrong with it.
type refusal[E any] struct {
	it E
	e  api.Errno
}

// nested: a Keep in so many Ifs.
func nested(many int) api.Command {
	c := api.Command{Kind: api.Keep}
	for range many {
		c = api.Command{Kind: api.If, Test: api.Test{Kind: api.True}, Then: []api.Command{c}}
	}
	return c
}

// wrongScripts, each for something else.
func wrongScripts() []refusal[[]api.Command] {
	return []refusal[[]api.Command]{
		{[]api.Command{{}}, api.ErrKind},
		{[]api.Command{{Kind: 11}}, api.ErrKind},
		{[]api.Command{{Kind: api.Discard}, {Kind: -1 << 63}}, api.ErrKind},
		{[]api.Command{{Kind: api.If, Test: api.Test{Kind: 11}}}, api.ErrKind},
		{[]api.Command{nested(api.MaxNest + 1)}, api.ErrSize},
		{[]api.Command{{Kind: api.Discard}, nested(60000)}, api.ErrSize},
		{[]api.Command{{Kind: api.Keep, Texts: []string{""}}}, api.ErrForm},
		{[]api.Command{{Kind: api.Discard}, {Kind: api.Require, Texts: []string{"reject"}}}, api.ErrForm},
		{[]api.Command{{Kind: api.Redirect, Texts: []string{"a@b, c@d"}}}, api.ErrForm},
		{slices.Repeat([]api.Command{{Kind: api.Keep}}, api.MaxTokens), api.ErrFull},
		{[]api.Command{{Kind: api.Require, Texts: []string{"Reject"}}}, api.ErrNone},
		{[]api.Command{{Kind: api.FileInto, Texts: []string{"work"}}}, api.ErrRight},
		{[]api.Command{{Kind: api.Stop}, {Kind: api.Reject, Texts: []string{"no"}}}, api.ErrRight},
		{[]api.Command{{Kind: api.Require, Texts: []string{"fileinto"}}, {Kind: api.FileInto, Texts: []string{"thirteenbytes"}}}, api.ErrSize},
	}
}

// wrongLetters, each for something else.
func wrongLetters() []refusal[api.Letter] {
	ann := letterOf(words).To
	long := api.Address{Local: strings.Repeat("a", 50), Domain: strings.Repeat("b", 50)}
	return []refusal[api.Letter]{
		{api.Letter{}, api.ErrForm},
		{api.Letter{To: ann, Text: words}, api.ErrForm},
		{api.Letter{From: ann, Text: words}, api.ErrForm},
		{api.Letter{From: long, Text: words}, api.ErrSize},
		{api.Letter{From: ann, To: long}, api.ErrSize},
		{letterOf(""), api.ErrShort},
		{letterOf("a: b\r\n"), api.ErrShort},
		{letterOf("a\r\n\r\n"), api.ErrForm},
		{letterOf(text(api.MaxText + 1)), api.ErrSize},
		{letterOf(strings.Repeat("a:\r\n", api.MaxFields+1) + "\r\n"), api.ErrFull},
	}
}

// fullStates: INBOX takes nothing more, each for something else, but work takes a little.
func fullStates() []api.State {
	return []api.State{
		stateOf(boxOf("INBOX", 31, mails(30, 1)...), boxOf("work", 1)),
		stateOf(boxOf("INBOX", api.MaxUid+1), boxOf("work", 1)),
	}
}

// P11.2: a state that may not be is refused ahead of all else, whatever would be done.
func TestWrongStates(t *testing.T) {
	for _, s := range wrongStates() {
		for _, script := range []string{``, `keep;`, `discard;`, `fileinto "work";`, `redirect "a@b";`, `reject "no";`} {
			refused(t, api.ErrState, s, letterOf(words), read(t, script))
		}
		for _, w := range wrongScripts() {
			refused(t, api.ErrState, s, letterOf(words), w.it)
			refused(t, api.ErrState, s, api.Letter{}, w.it)
		}
		for _, w := range wrongLetters() {
			refused(t, api.ErrState, s, w.it, nil)
		}
	}
}

// P11.2: a script that is not allowed is refused ahead of a letter that may not be, and of what can't be done.
func TestWrongScripts(t *testing.T) {
	for _, w := range wrongScripts() {
		for _, s := range append(fullStates(), api.State{}, rooms()) {
			refused(t, w.e, s, letterOf(words), w.it)
			for _, l := range wrongLetters() {
				refused(t, w.e, s, l.it, w.it)
			}
		}
	}
}

// P11.2: a letter that may not be is refused, even if nothing is done with it, ahead of what can't be done.
func TestWrongLetters(t *testing.T) {
	for _, w := range wrongLetters() {
		for _, s := range append(fullStates(), api.State{}, rooms()) {
			for _, script := range []string{``, `keep;`, `discard;`, `redirect "a@b";`, `reject "no";`, `stop;`} {
				refused(t, w.e, s, w.it, read(t, script))
			}
			refused(t, w.e, s, w.it, nil)
		}
	}
}

// P11.2: is there no INBOX, what comes there is refused.
func TestNoInbox(t *testing.T) {
	for _, s := range []api.State{{}, stateOf(boxOf("work", 1)), stateOf(boxOf("inbox", 1), boxOf("work", 1)), {Spool: []api.Entry{spool("INBOX@INBOX", "")}}} {
		for _, script := range []string{``, `keep;`, `fileinto "INBOX";`, `fileinto "none";`, `fileinto "work"; fileinto "none";`, `redirect "a@b"; keep;`, `keep; reject "no";`, `discard; keep;`} {
			refused(t, api.ErrNone, s, letterOf(words), read(t, script))
		}
		refused(t, api.ErrNone, s, letterOf(words), nil)
	}
}

// P11.2: a box takes MaxMails mails, and Uids up to MaxUid.
func TestBoxFull(t *testing.T) {
	l := letterOf(words)
	for _, s := range fullStates() {
		for _, script := range []string{``, `keep;`, `fileinto "none";`, `fileinto "work"; keep;`, `keep; fileinto "work";`, `redirect "a@b"; keep;`, `keep; reject "no";`} {
			refused(t, api.ErrFull, s, l, read(t, script))
		}
		enters(t, s, l, read(t, `fileinto "work"; redirect "a@b";`), add("work", 0, words), spool("a@b", words))
		enters(t, s, l, read(t, `reject "no";`), spool("joe@z", "no"))
		delivers(t, s, l, read(t, `discard;`), s)
	}
	enters(t, stateOf(boxOf("INBOX", 30, mails(29, 1)...)), l, nil, add("INBOX", 0, words))
	enters(t, stateOf(boxOf("INBOX", api.MaxUid)), l, nil, add("INBOX", 0, words))
	// A box that is full takes no letter of another's in its place: there is a box of that name.
	s := stateOf(boxOf("INBOX", 1), boxOf("work", 31, mails(30, 1)...))
	refused(t, api.ErrFull, s, l, read(t, `fileinto "work";`))
}

// P11.2: all mails together have at most Quota bytes: what goes to several boxes counts for each; what waits to go out does not.
func TestQuota(t *testing.T) {
	for _, n := range []int{2, 100, 101, 1000, 1999, api.MaxText} {
		l := letterOf(text(n))
		once := stateOf(boxOf("INBOX", 4, append(mails(2, 2000), mail(3, 0, strings.Repeat("m", 2000-n)))...), boxOf("work", 1))
		enters(t, once, l, nil, add("INBOX", 0, l.Text))
		enters(t, once, l, read(t, `fileinto "work"; redirect "a@b"; redirect "c@d";`), add("work", 0, l.Text), spool("a@b", l.Text), spool("c@d", l.Text))
		refused(t, api.ErrFull, once, l, read(t, `keep; fileinto "work";`))
		refused(t, api.ErrFull, once, l, read(t, `fileinto "work"; redirect "a@b"; keep;`))
		enters(t, once, l, read(t, `keep; fileinto "none"; fileinto "nil";`), add("INBOX", 0, l.Text))
		full := stateOf(boxOf("INBOX", 4, append(mails(2, 2000), mail(3, 0, strings.Repeat("m", 2001-n)))...), boxOf("work", 1))
		refused(t, api.ErrFull, full, l, nil)
		refused(t, api.ErrFull, full, l, read(t, `fileinto "work";`))
		enters(t, full, l, read(t, `redirect "a@b";`), spool("a@b", l.Text))
	}
}

// P11.2: so many entries may wait to go out.
func TestSpoolFull(t *testing.T) {
	l := letterOf(words)
	waits := func(n int) api.State {
		return api.State{Boxes: rooms().Boxes, Spool: slices.Repeat([]api.Entry{spool("a@b", "x")}, n)}
	}
	enters(t, waits(api.MaxSpool-1), l, read(t, `redirect "a@b";`), spool("a@b", words))
	enters(t, waits(api.MaxSpool-1), l, read(t, `reject "no";`), spool("joe@z", "no"))
	enters(t, waits(api.MaxSpool-2), l, read(t, `redirect "c@d"; redirect "a@b";`), spool("c@d", words), spool("a@b", words))
	enters(t, waits(api.MaxSpool), l, read(t, `keep; fileinto "work";`), add("INBOX", 0, words), add("work", 0, words))
	for _, script := range []string{`redirect "a@b";`, `reject "no";`, `keep; redirect "a@b";`, `redirect "c@d"; fileinto "work";`} {
		refused(t, api.ErrFull, waits(api.MaxSpool), l, read(t, script))
	}
	refused(t, api.ErrFull, waits(api.MaxSpool-1), l, read(t, `redirect "c@d"; redirect "a@b";`))
}

// P11.2: what is told may be too long to go out; that comes ahead of a Spool that is full.
func TestToldTooLong(t *testing.T) {
	for _, s := range []api.State{{}, rooms(), {Spool: slices.Repeat([]api.Entry{spool("a@b", "x")}, api.MaxSpool)}} {
		for _, n := range []int{1, 2, 100000} {
			reject := []api.Command{{Kind: api.Require, Texts: []string{"reject"}}, {Kind: api.Reject, Texts: []string{strings.Repeat("n", api.MaxText+n)}}}
			refused(t, api.ErrSize, s, letterOf(words), reject)
			refused(t, api.ErrSize, s, letterOf(words), append(reject, api.Command{Kind: api.Discard}))
		}
	}
}

// P11.2: the first entry that can't be done tells the error.
func TestFirstErrorOfEntries(t *testing.T) {
	s := api.State{Boxes: []api.Box{boxOf("work", 31, mails(30, 1)...)}, Spool: slices.Repeat([]api.Entry{spool("a@b", "x")}, api.MaxSpool)}
	for script, want := range map[string]api.Errno{
		`keep; fileinto "work"; redirect "a@b";`: api.ErrNone,
		`fileinto "work"; keep; redirect "a@b";`: api.ErrFull,
		`redirect "a@b"; keep; fileinto "work";`: api.ErrFull,
		`fileinto "none"; redirect "a@b";`:       api.ErrNone,
	} {
		refused(t, want, s, letterOf(words), read(t, script))
	}
}

// A letter that comes again and again comes to both boxes as long as there is room for both, and then to neither.
func TestAgainAndAgain(t *testing.T) {
	l := letterOf(text(100))
	cs := read(t, `fileinto "work"; redirect "a@b"; if size :over 1K { discard; } else { keep; }`)
	s := rooms()
	for n := range 40 {
		got, next, e := deliver.Deliver(s, l, cs)
		if n >= api.MaxSpool {
			refused(t, api.ErrFull, s, l, cs)
			continue
		}
		if e != api.OK || len(got) != 3 || len(next.Boxes[0].Mails) != n+1 || len(next.Boxes[1].Mails) != n+1 || len(next.Spool) != n+1 {
			t.Fatalf("delivery %d: %s, %s, %d", n, short(got), short(next), e)
		}
		s = next
	}
	if size, e := box.Size(s); e != api.OK || size != 2*100*api.MaxSpool {
		t.Errorf("Size = %d, %d", size, e)
	}
}
