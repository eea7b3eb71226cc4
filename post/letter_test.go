package post_test

import (
	"slices"
	"strings"
	"testing"

	"postroom/api"
)

// scripted: a user with a script that may require all.
func scripted(local, script string) api.User {
	return api.User{Local: local, Script: `require ["fileinto", "reject", "envelope", "imap4flags"]; ` + script}
}

// lines of so many bytes, ends and all.
func lines(bytes int) []string {
	l := slices.Repeat([]string{strings.Repeat("x", 98)}, bytes/100)
	switch left := bytes % 100; left {
	case 0:
		return l
	case 1:
		l[0] += "x"
		return l
	default:
		return append(l, strings.Repeat("x", left-2))
	}
}

// sized letter: its text, with a field, has so many bytes.
func sized(conn, bytes int, to ...string) api.Act {
	return feed(conn, slices.Concat(begun(to...), []string{"s: t", ""}, lines(bytes-8), []string{"."})...)
}

// P13.4: a letter goes to each user to whom it is, by the script of each.
func TestScriptsOfUsers(t *testing.T) {
	users := []api.User{scripted("ann", `fileinto "work"; keep; redirect "sue@x";`), scripted("bob", `if envelope :domain "to" "y" { setflag "\\Seen"; } reject "no";`), scripted("cid", `if envelope "to" "cid@y" { discard; }`)}
	o := run(t, users, order(0, create("work")), feed(0, "LHLO a", "MAIL FROM:<joe@z>", "RCPT TO:<cid@q>", "RCPT TO:<bob@y>", "RCPT TO:<cid@y>", "RCPT TO:<ann@y>", "DATA", "s: t", "", "."), sync)
	codes(t, o, fresh(4, 250, 250, 250, 250))
	text := whole("s: t")
	is(t, "states", o.States, []api.State{
		{Boxes: []api.Box{inbox(text), filled("work", text)}, Spool: []api.Entry{{Kind: api.Spool, To: "sue@x", Text: text}}},
		{Boxes: []api.Box{inbox()}, Spool: []api.Entry{{Kind: api.Spool, To: "joe@z", Text: "no"}}},
		boxes(inbox(text)),
	})
}

// P13.4: 250 at once: there are no entries. With others that wait it is told with these.
func TestNoEntries(t *testing.T) {
	o := run(t, three(), letter(0, "s: t", "cid"))
	codes(t, o, fresh(1, 250))
	is(t, "waits", o.Waits, 0)
	codes(t, run(t, three(), letter(0, "s: t", "ann", "cid")), fresh(2))
	codes(t, run(t, three(), letter(0, "s: t", "cid", "ann")), fresh(2))
	codes(t, run(t, three(), letter(0, "s: t", "cid", "ann", "bob"), sync), fresh(3, 250, 250, 250))
	// It goes on at once: two letters in one feed.
	codes(t, run(t, three(), raw(0, letter(0, "s: t", "cid").Data+letter(0, "s: t", "cid").Data+"NOOP\r\n")), slices.Concat(fresh(1, 250), fresh(1, 250, 250)))
}

// P13.4: 554: it can't be delivered, since it is no message.
func TestFailed(t *testing.T) {
	for _, bad := range [][]string{{}, {"no field"}, {"no field", ""}, {"s: t"}, {" s: t", ""}, {": t", ""}} {
		o := run(t, three(), feed(0, slices.Concat(begun("ann", "bob", "cid"), bad, []string{"."}, begun("ann"))...))
		codes(t, o, slices.Concat(fresh(3, 554, 554, 554), fresh(1)))
		is(t, "waits", o.Waits, 0)
	}
	// Too many fields are ErrFull of their own, and so 452.
	o := run(t, three(), feed(0, slices.Concat(begun("ann", "cid"), slices.Repeat([]string{"a: b"}, api.MaxFields+1), []string{"", "."})...))
	codes(t, o, fresh(2, 452, 452))
	// A script that looks at nothing does not help.
	users := []api.User{scripted("ann", `keep;`), scripted("bob", `discard;`)}
	codes(t, run(t, users, feed(0, append(begun("ann", "bob"), "no field", ".")...)), fresh(2, 554, 554))
}

// P13.4: 552: it was Large, whatever else is wrong with it, for all to whom it goes; the next one is not.
func TestLarge(t *testing.T) {
	for _, n := range []int{api.MaxText - 2, api.MaxText - 1, api.MaxText} {
		o := run(t, three(), sized(0, n, "ann"), sync)
		codes(t, o, fresh(1, 250))
		if l := o.States[0].Boxes[0].Mails; len(l) != 1 || len(l[0].Text) != n {
			t.Errorf("a letter of %d bytes: %s", n, short(l))
		}
	}
	for _, n := range []int{api.MaxText + 1, api.MaxText + 2, api.MaxText + 500} {
		o := run(t, three(), sized(0, n, "ann", "bob", "cid"), letter(0, "s: t", "ann"), sync)
		codes(t, o, slices.Concat(fresh(3, 552, 552, 552), fresh(1, 250)))
		is(t, "states", o.States, []api.State{boxes(inbox(whole("s: t"))), boxes(inbox()), boxes(inbox())})
	}
	long := strings.Repeat("x", api.MaxText)
	o := run(t, three(), feed(0, append(begun("ann"), "no field", long, ".")...), feed(0, append(begun("cid"), long, ".")...), raw(0, "NOOP\r\n"))
	codes(t, o, slices.Concat(fresh(1, 552), fresh(1, 552, 250)))
	is(t, "waits", o.Waits, 0)
	// Large and dot in different feeds; in between the room is synced.
	o = run(t, three(), feed(0, append(begun("ann"), "s: t", "", long)...), sync, start, feed(0, "."), sync)
	codes(t, o, fresh(1, 552))
	is(t, "states", o.States[0], boxes(inbox()))
}

// P13.4: 452: the user has no room, even if it is what waits that takes it.
func TestNoRoom(t *testing.T) {
	third := sized(0, api.Quota/3, "ann")
	for _, between := range []api.Act{sync, raw(2, "")} {
		l := []api.Act{sized(0, api.Quota/3, "ann"), between, sized(1, api.Quota/3, "ann"), between, sized(2, api.Quota/3-8, "ann")}
		o := run(t, three(), append(l, sync, third, letter(1, "s: t", "ann"), letter(2, "a: b", "bob"), sync)...)
		is(t, "codes", o.Codes, [][]int{slices.Concat(fresh(1, 250), fresh(1, 452)), slices.Concat(fresh(1, 250), fresh(1, 250)), slices.Concat(fresh(1, 250), fresh(1, 250))})
		if m := o.States[0].Boxes[0].Mails; len(m) != 4 || m[3].Text != whole("s: t") {
			t.Errorf("mails: %s", short(m))
		}
		o = run(t, three(), append(l, order(0, written(strings.Repeat("x", 9))), order(0, written(strings.Repeat("x", 8))), order(0, written("x")), sync)...)
		is(t, "orders", o.Orders[0], []api.Errno{api.ErrFull, api.ErrFull, api.OK})
	}
	// Of one letter that goes twice to one user the first one takes the room.
	o := run(t, three(), sized(0, api.Quota/3, "ann"), sync, sized(0, api.Quota/3, "ann"), sync,
		feed(0, slices.Concat([]string{"LHLO a", "MAIL FROM:<joe@z>", "RCPT TO:<ann@a>", "RCPT TO:<ann@b>", "RCPT TO:<bob@b>", "DATA", "s: t", ""}, lines(1500), []string{"."})...), sync)
	codes(t, o, slices.Concat(fresh(1, 250), fresh(1, 250), fresh(3, 250, 452, 250)))
}

// P13.4: 452: the spool has no room, nor a box of many mails; at once, if all are refused.
func TestNoRoomElsewhere(t *testing.T) {
	users := []api.User{scripted("ann", `redirect "sue@x";`), scripted("bob", `keep;`)}
	for local, most := range map[string]int{"ann": api.MaxSpool, "bob": api.MaxMails} {
		l := slices.Repeat([]api.Act{letter(0, "s: t", local), sync}, most)
		o := run(t, users, append(l, letter(0, "s: t", local))...)
		codes(t, o, append(slices.Repeat(fresh(1, 250), most), fresh(1, 452)...))
	}
}

// P13.4: 452: MaxWaits batches wait. Those of one letter are batches each.
func TestTooManyWait(t *testing.T) {
	var l []api.Act
	for i := range api.MaxWaits {
		l = append(l, order(i%3, create(string(rune('a'+i/3)))))
	}
	o := run(t, three(), append(l, letter(0, "s: t", "ann", "bob"), letter(1, "s: t", "cid"), feed(2, append(begun("ann"), "x", ".")...))...)
	codes(t, o, fresh(2, 452, 452), fresh(1, 250), fresh(1, 554))
	is(t, "waits", o.Waits, api.MaxWaits)
	is(t, "orders", o.Orders, [][]api.Errno{nil, nil, nil})
	o = run(t, three(), append(l[:api.MaxWaits-1:api.MaxWaits-1], letter(0, "s: t", "ann", "bob"))...)
	codes(t, o, fresh(2))
	is(t, "waits", o.Waits, api.MaxWaits)
	o = run(t, three(), append(l[:api.MaxWaits-1:api.MaxWaits-1], letter(0, "s: t", "ann", "cid", "bob"), sync, letter(0, "s: u", "bob"), sync)...)
	codes(t, o, slices.Concat(fresh(3, 250, 250, 452), fresh(1, 250)))
	is(t, "state", o.States[1].Boxes[0], inbox(whole("s: u")))
	// A batch of many entries is one.
	users := []api.User{scripted("ann", `keep; redirect "a@b"; redirect "c@d"; redirect "e@f";`)}
	o = run(t, users, letter(0, "s: t", "ann"), letter(1, "s: t", "ann"))
	is(t, "waits", o.Waits, 2)
}

// P13.4: 452 and P13.5: ErrFull: the tape has no room, to the byte.
func TestTapeFull(t *testing.T) {
	const head = 3 + 2 + 5 + 6 // of a batch with one entry: its length, its own bytes, the entry's numbers and lengths
	size := head + len("INBOX") + len(whole("s: t"))
	for room := size - 2; room <= size+1; room++ {
		l := fillTape(room)
		o := run(t, []api.User{ann}, append(l, letter(0, "s: t", "ann"), sync)...)
		p := run(t, []api.User{ann}, append(l, order(0, written(whole("s: t"))), sync)...)
		code, e, want := 250, api.OK, inbox(whole("s: t"))
		if room < size {
			code, e, want = 452, api.ErrFull, inbox()
		}
		codes(t, o, fresh(1, code))
		is(t, "the last order", p.Orders[0][len(p.Orders[0])-1], e)
		is(t, "mails", text(o.States[0].Boxes[0].Mails) == text(p.States[0].Boxes[0].Mails), true)
		is(t, "how many mails", len(o.States[0].Boxes[0].Mails), len(want.Mails))
		// What is full stays so behind a crash, which takes nothing that was synced.
		p = run(t, []api.User{ann}, append(l, crash(0), start, letter(0, "s: t", "ann"), sync)...)
		is(t, "behind a crash", p.Codes, o.Codes)
		is(t, "behind a crash", p.States, o.States)
	}
}

// fillTape: acts that leave so many bytes of room on the tape, and an inbox without mails.
func fillTape(room int) []api.Act {
	const each = 2 * (3 + 2 + 5 + 6 + len("INBOX")) // an Append and an Expunge, beside the text
	var l []api.Act
	for left := api.MaxBytes - room; left > 0; {
		n := min(api.MaxText, left-each)
		if rest := left - each - n; 0 < rest && rest < each {
			n -= each // else the last round had no room
		}
		x := written(strings.Repeat("x", n))
		x.Flags = api.Deleted
		l = append(l, order(0, x), order(0, api.Entry{Kind: api.Expunge, Box: "INBOX"}), sync)
		left -= each + n
	}
	return l
}
