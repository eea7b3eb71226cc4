package deliver_test

import (
	"fmt"
	"slices"
	"strings"
	"testing"

	"postroom/api"
	"postroom/box"
	"postroom/deliver"
	"postroom/rule"
)

// What may be required, all of it.
const requireAll = `require ["fileinto", "reject", "envelope", "imap4flags"]; `

// words: the text of a letter.
const words = "Subject: work\r\n\r\nhello"

// text of so many bytes, which is a message's.
func text(n int) string { return "\r\n" + strings.Repeat("t", n-2) }

// letterOf a text, from joe@z to ann@y.
func letterOf(text string) api.Letter {
	return api.Letter{From: api.Address{Local: "joe", Domain: "z"}, To: api.Address{Local: "ann", Domain: "y"}, Text: text}
}

// read a script that may ask for everything.
func read(t *testing.T, s string) []api.Command {
	t.Helper()
	l, e := rule.Read(requireAll + s)
	if e != api.OK {
		t.Fatalf("Read(%s) = %v", s, e)
	}
	return l
}

// What states and entries are made of.
func boxOf(name string, next int, l ...api.Mail) api.Box {
	return api.Box{Name: name, Next: next, Mails: l}
}
func mail(uid, flags int, text string) api.Mail {
	return api.Mail{Uid: uid, Flags: flags, Text: text}
}
func stateOf(l ...api.Box) api.State { return api.State{Boxes: l} }
func add(name string, flags int, text string) api.Entry {
	return api.Entry{Kind: api.Append, Box: name, Flags: flags, Text: text}
}
func spool(to, text string) api.Entry {
	return api.Entry{Kind: api.Spool, To: to, Text: text}
}

// rooms: a state with empty boxes INBOX, work and home.
func rooms() api.State {
	return stateOf(boxOf("INBOX", 1), boxOf("work", 1), boxOf("home", 1))
}

// short: the beginning of what a value is told as.
func short(v any) string {
	s := strings.ToValidUTF8(fmt.Sprintf("%+v", v), "?")
	return s[:min(len(s), 500)]
}

// sameState: lists without elements are the same, be they nil or not.
func sameState(a, b api.State) bool {
	return slices.Equal(a.Spool, b.Spool) && slices.EqualFunc(a.Boxes, b.Boxes, func(c, d api.Box) bool {
		return c.Name == d.Name && c.Next == d.Next && slices.Equal(c.Mails, d.Mails)
	})
}

// delivers: Deliver answers this state, by these entries.
func delivers(t *testing.T, s api.State, l api.Letter, cs []api.Command, after api.State, want ...api.Entry) {
	t.Helper()
	got, next, e := deliver.Deliver(s, l, cs)
	if e != api.OK || !slices.Equal(got, want) || !sameState(next, after) {
		t.Errorf("Deliver(%s, %s, %s) = %s, %s, %d; want %s, %s, 0", short(s), short(l), short(cs), short(got), short(next), e, short(want), short(after))
	}
}

// enters: Deliver answers these entries, and the state that box makes of them, one behind the other.
func enters(t *testing.T, s api.State, l api.Letter, cs []api.Command, want ...api.Entry) {
	t.Helper()
	after := s
	for _, x := range want {
		var e api.Errno
		if after, e = box.Apply(after, x); e != api.OK {
			t.Fatalf("Apply(%s, %s) = %v", short(s), short(x), e)
		}
	}
	delivers(t, s, l, cs, after, want...)
}

// refused: Deliver answers this error, and nothing else.
func refused(t *testing.T, want api.Errno, s api.State, l api.Letter, cs []api.Command) {
	t.Helper()
	got, next, e := deliver.Deliver(s, l, cs)
	if e != want || len(got) != 0 || len(next.Boxes) != 0 || len(next.Spool) != 0 {
		t.Errorf("Deliver(%s, %s, %s) = %s, %s, %d; want nothing, %d", short(s), short(l), short(cs), short(got), short(next), e, want)
	}
}

// P11.1, P11.2: entries and state of each kind of action, written out.
func TestDeliver(t *testing.T) {
	s := api.State{
		Boxes: []api.Box{boxOf("INBOX", 9, mail(2, 4, "x"), mail(7, 0, "y")), boxOf("work", 3)},
		Spool: []api.Entry{spool("e@f", "g")},
	}
	kept := api.State{
		Boxes: []api.Box{boxOf("INBOX", 10, mail(2, 4, "x"), mail(7, 0, "y"), mail(9, 0, words)), boxOf("work", 3)},
		Spool: s.Spool,
	}
	filed := api.State{
		Boxes: []api.Box{s.Boxes[0], boxOf("work", 4, mail(3, 1, words))},
		Spool: s.Spool,
	}
	sent := api.State{Boxes: s.Boxes, Spool: []api.Entry{spool("e@f", "g"), spool("a@b", words)}}
	turnedAway := api.State{Boxes: s.Boxes, Spool: []api.Entry{spool("e@f", "g"), spool("joe@z", "no")}}
	l := letterOf(words)
	delivers(t, s, l, nil, kept, add("INBOX", 0, words))
	delivers(t, s, l, []api.Command{}, kept, add("INBOX", 0, words))
	delivers(t, s, l, read(t, `keep;`), kept, add("INBOX", 0, words))
	delivers(t, s, l, read(t, `setflag "\\Seen"; fileinto "work";`), filed, add("work", 1, words))
	delivers(t, s, l, read(t, `redirect "Ann <a@b>";`), sent, spool("a@b", words))
	delivers(t, s, l, read(t, `reject "no";`), turnedAway, spool("joe@z", "no"))
	delivers(t, s, l, read(t, `discard;`), s)
}

// P11.1: a Keep is an Append to INBOX, with its flags, be it asked for or not.
func TestKeep(t *testing.T) {
	for script, flags := range map[string]int{
		``:                               0,
		`stop;`:                          0,
		`keep;`:                          0,
		`keep; keep;`:                    0,
		`setflag "\\Seen";`:              1,
		`setflag "\\Seen"; keep;`:        1,
		`keep; setflag "\\Seen";`:        0,
		`keep; setflag "\\Seen"; keep;`:  0,
		`setflag "\\Seen"; stop; keep;`:  1,
		`addflag ["\\Draft", "\\Seen"];`: 17,
		`addflag ["\\Answered", "\\Flagged", "\\Deleted"]; keep;`:          14,
		`addflag "\\Deleted"; addflag "\\Draft"; keep; setflag "\\Seen";`:  24,
		`if header "subject" "work" { setflag "\\Flagged"; }`:              4,
		`if not header "subject" "work" { setflag "\\Flagged"; }`:          0,
		`if envelope :localpart "from" "joe" { addflag "\\Seen"; keep; }`:  1,
		`if envelope :localpart "to" "joe" { discard; }`:                   0,
		`if size :over 5 { addflag "\\Seen"; } else { discard; }`:          1,
		`if exists "cc" { discard; } elsif true { addflag "\\Answered"; }`: 2,
	} {
		enters(t, rooms(), letterOf(words), read(t, script), add("INBOX", flags, words))
	}
}

// P11.1: a FileInto is an Append to the box of that name, with its flags.
func TestFileInto(t *testing.T) {
	l := letterOf(words)
	enters(t, rooms(), l, read(t, `fileinto "work";`), add("work", 0, words))
	enters(t, rooms(), l, read(t, `fileinto "INBOX";`), add("INBOX", 0, words))
	enters(t, rooms(), l, read(t, `fileinto "home"; fileinto "work";`), add("home", 0, words), add("work", 0, words))
	enters(t, rooms(), l, read(t, `setflag "\\Seen"; fileinto "home"; setflag "\\Draft"; keep; addflag "\\Seen"; fileinto "work";`),
		add("home", 1, words), add("INBOX", 16, words), add("work", 17, words))
	// The last of all boxes, and one with the longest name, are found, too.
	long := strings.Repeat("~", api.MaxName)
	s := stateOf(boxOf("INBOX", 1), boxOf("a", 1), boxOf("b", 1), boxOf("c", 1), boxOf(long, 1))
	enters(t, s, l, read(t, `fileinto "`+long+`";`), add(long, 0, words))
	// A state need not have INBOX, if nothing comes there.
	enters(t, stateOf(boxOf("work", 1)), l, read(t, `fileinto "work";`), add("work", 0, words))
}

// P11.1: is there no box of that name, byte by byte, it is INBOX.
func TestFileIntoNone(t *testing.T) {
	l := letterOf(words)
	for _, name := range []string{"none", "Work", "WORK", "wor", "workk", "inbox", "Inbox", "home.work", "work/", "*", "?"} {
		enters(t, rooms(), l, read(t, `addflag "\\Flagged"; fileinto "`+name+`"; addflag "\\Seen";`), add("INBOX", 4, words))
	}
	// A name in the Spool, or of a mail, is no box.
	s := api.State{Boxes: []api.Box{boxOf("INBOX", 2, mail(1, 0, "none"))}, Spool: []api.Entry{spool("none@none", "none")}}
	enters(t, s, l, read(t, `fileinto "none";`), add("INBOX", 0, words))
}

// P11.1: a letter comes to a box just once, as it was first asked for.
func TestOnceToEachBox(t *testing.T) {
	l := letterOf(words)
	for script, flags := range map[string]int{
		`keep; addflag "\\Seen"; fileinto "INBOX";`:                                                                 0,
		`fileinto "INBOX"; addflag "\\Seen"; keep;`:                                                                 0,
		`addflag "\\Seen"; keep; setflag "\\Draft"; fileinto "none";`:                                               1,
		`addflag "\\Seen"; fileinto "none"; setflag "\\Draft"; keep;`:                                               1,
		`addflag "\\Seen"; fileinto "none"; setflag "\\Draft"; fileinto "nil";`:                                     1,
		`addflag "\\Seen"; fileinto "none"; setflag "\\Draft"; fileinto "INBOX";`:                                   1,
		`fileinto "a"; addflag "\\Seen"; fileinto "b"; fileinto "c"; keep; fileinto "d"; fileinto "INBOX";`:         0,
		`discard; setflag "\\Answered"; fileinto "a"; discard; setflag "\\Seen"; fileinto "b"; keep; fileinto "a";`: 2,
	} {
		enters(t, rooms(), l, read(t, script), add("INBOX", flags, words))
	}
	enters(t, rooms(), l, read(t, `fileinto "work"; fileinto "none"; setflag "\\Seen"; fileinto "work"; keep; fileinto "home"; fileinto "nil";`),
		add("work", 0, words), add("INBOX", 0, words), add("home", 1, words))
	// What goes out to somebody does not keep it from a box, even if they have the same name.
	enters(t, rooms(), l, read(t, `redirect "INBOX@work"; keep; redirect "work@INBOX"; fileinto "work";`),
		spool("INBOX@work", words), add("INBOX", 0, words), spool("work@INBOX", words), add("work", 0, words))
	// That it was delivered before, or that there is a mail with the same text, is no hindrance.
	s := stateOf(boxOf("INBOX", 3, mail(1, 0, words), mail(2, 0, words)), boxOf("work", 2, mail(1, 0, words)))
	enters(t, s, l, read(t, `keep; fileinto "work";`), add("INBOX", 0, words), add("work", 0, words))
}

// P11.1: a Redirect is a Spool of the letter's text to that address alone, without flags.
func TestRedirect(t *testing.T) {
	l := letterOf(words)
	enters(t, rooms(), l, read(t, `redirect "a@b";`), spool("a@b", words))
	enters(t, rooms(), l, read(t, `addflag "\\Seen"; redirect " \"A, B\" C <a.b@c.d>	";`), spool("a.b@c.d", words))
	enters(t, rooms(), l, read(t, `redirect "A@B"; redirect "a@b"; redirect "Ann <A@B>"; redirect "c@d";`), spool("A@B", words), spool("a@b", words), spool("c@d", words))
	enters(t, rooms(), l, read(t, `redirect "joe@z"; redirect "ann@y";`), spool("joe@z", words), spool("ann@y", words))
	// The longest address that may be, and a state without boxes.
	long := strings.Repeat("a", 50) + "@" + strings.Repeat("b", 49)
	enters(t, api.State{}, l, read(t, `redirect "<`+long+`>";`), spool(long, words))
}

// P11.1: a Reject is a Spool of what is told to who has sent the letter.
func TestReject(t *testing.T) {
	for _, from := range []api.Address{
		{Local: "joe", Domain: "z"}, {Local: "a.b", Domain: "c.d.e"}, {Local: "ann", Domain: "y"},
		{Local: "+", Domain: "|"}, {Local: strings.Repeat("a", 49), Domain: strings.Repeat("b", 50)},
	} {
		for _, told := range []string{"no", "", " ", "a@b", "INBOX", "\r\n.\r\n", "\x00\xff", strings.Repeat("n", api.MaxText)} {
			l := letterOf(words)
			l.From = from
			reject := []api.Command{
				{Kind: api.Require, Texts: []string{"reject", "imap4flags"}},
				{Kind: api.SetFlag, Texts: []string{`\Seen`}},
				{Kind: api.Reject, Texts: []string{told}},
			}
			enters(t, rooms(), l, reject, spool(from.Local+"@"+from.Domain, told))
			enters(t, api.State{}, l, append(reject, api.Command{Kind: api.Discard}), spool(from.Local+"@"+from.Domain, told))
		}
	}
}

// P11.1: of a Discard nothing comes, but it hinders nothing else; a state may be without anything then.
func TestDiscard(t *testing.T) {
	l := letterOf(words)
	for _, s := range []api.State{{}, rooms(), stateOf(boxOf("INBOX", 2, mail(1, 31, "x"))), {Spool: []api.Entry{spool("a@b", "c")}}} {
		delivers(t, s, l, read(t, `discard;`), s)
		delivers(t, s, l, read(t, `setflag "\\Seen"; discard; discard; stop; keep;`), s)
		delivers(t, s, l, []api.Command{{Kind: api.Discard}}, s)
	}
	enters(t, rooms(), l, read(t, `discard; keep;`), add("INBOX", 0, words))
	enters(t, rooms(), l, read(t, `fileinto "work"; discard;`), add("work", 0, words))
	enters(t, rooms(), l, read(t, `redirect "a@b"; discard; keep;`), spool("a@b", words), add("INBOX", 0, words))
	enters(t, rooms(), l, read(t, `discard; reject "no";`), spool("joe@z", "no"))
}

// P11.1: entries stand in the order of the actions.
func TestOrder(t *testing.T) {
	commands := map[string]api.Entry{
		`keep; `:            add("INBOX", 0, words),
		`fileinto "work"; `: add("work", 0, words),
		`redirect "a@b"; `:  spool("a@b", words),
		`redirect "c@d"; `:  spool("c@d", words),
	}
	for a, x := range commands {
		for b, y := range commands {
			for c, z := range commands {
				if a != b && b != c && c != a {
					enters(t, rooms(), letterOf(words), read(t, a+b+c), x, y, z)
					enters(t, rooms(), letterOf(words), read(t, `discard; `+a+b+a+c+b), x, y, z)
				}
			}
		}
	}
}

// P11.2: a course with a fault is a Keep without flags alone, whatever else it has asked for.
func TestFault(t *testing.T) {
	for _, script := range []string{
		`keep; reject "no";`,
		`reject "no"; keep;`,
		`reject "no"; reject "no";`,
		`addflag "\\Seen"; fileinto "work"; reject "no";`,
		`addflag "\\Seen"; redirect "a@b"; fileinto "home"; reject "no"; fileinto "work";`,
		`reject "no"; addflag "\\Seen"; redirect "a@b";`,
		`setflag "\\Draft"; fileinto "a"; fileinto "b"; fileinto "c"; fileinto "d"; fileinto "e"; fileinto "work"; fileinto "home";`,
		`redirect "a@a"; redirect "a@b"; redirect "a@c"; redirect "a@d"; redirect "a@e"; redirect "a@f"; redirect "a@g";`,
	} {
		enters(t, rooms(), letterOf(words), read(t, script), add("INBOX", 0, words))
	}
}

// P11.2: as many actions as there may be are done, all of them.
func TestManyActions(t *testing.T) {
	l := letterOf(words)
	enters(t, rooms(), l, read(t, `redirect "a@a"; redirect "a@b"; redirect "a@c"; redirect "a@d"; redirect "a@e"; redirect "a@f"; redirect "a@a";`),
		spool("a@a", words), spool("a@b", words), spool("a@c", words), spool("a@d", words), spool("a@e", words), spool("a@f", words))
	enters(t, rooms(), l, read(t, `fileinto "work"; fileinto "home"; keep; redirect "a@b"; fileinto "none"; redirect "c@d";`),
		add("work", 0, words), add("home", 0, words), add("INBOX", 0, words), spool("a@b", words), spool("c@d", words))
}

// P11.1: the text is the letter's, to the byte: nothing that may be in it is told otherwise.
func TestTextAsItIs(t *testing.T) {
	for _, s := range []string{"\r\n", "\r\n\r\n", "a:\tb \r\n c\r\n\r\n\x00\xff\r", "A:b\r\nA:b\r\n\r\n", text(api.MaxText), strings.Repeat("A:\r\n", api.MaxFields) + "\r\n" + strings.Repeat("z", api.MaxText-2-4*api.MaxFields)} {
		enters(t, rooms(), letterOf(s), read(t, `keep; fileinto "work"; redirect "a@b";`), add("INBOX", 0, s), add("work", 0, s), spool("a@b", s))
	}
}
