package post_test

import (
	"slices"
	"strings"
	"testing"

	"postroom/api"
)

// P13.3: lines go to the session wherever the feeds cut them: between all bytes, at one place, or nowhere.
func TestCuts(t *testing.T) {
	data := letter(0, "s: t", "ann", "dan").Data + "NOOP\r\n"
	want := run(t, three(), raw(0, data), sync)
	codes(t, want, slices.Concat([]int{250, 250, 250, 550, 354}, []int{250, 250}))
	is(t, "state", want.States[0], boxes(inbox(whole("s: t"))))
	var single []api.Act
	for i := range data {
		single = append(single, raw(0, data[i:i+1]))
		is(t, "cut once", run(t, three(), raw(0, data[:i]), raw(0, data[i:]), sync), want)
	}
	is(t, "byte by byte", run(t, three(), append(single, sync)...), want)
}

// P13.3: a line ends with the bytes 13 and 10, and with nothing less.
func TestLineEnds(t *testing.T) {
	for data, want := range map[string][]int{
		"NOOP": nil, "NOOP\r": nil, "NOOP\n": nil, "NOOP\n\r": nil, "NOOP\n\nNOOP\r\rNOOP": nil,
		"\r\n": {500}, "\r\n\r\n": {500, 500}, "NOOP\r\n": {250}, "NOOP\r\nNOOP": {250}, "NOOP\r\r\n": {500}, "NOOP\n\r\n": {500}, "NOOP\nNOOP\r\n": {500}, "NOOP\r\n\n": {250}, "NOOP\r\n\nNOOP\r\n": {250, 500},
		"NOOP\r\nNOOP\r\nx\r\nnoop\r\n": {250, 250, 500, 250},
	} {
		codes(t, run(t, three(), raw(0, data)), want)
		codes(t, run(t, three(), raw(2, data)), nil, nil, want)
	}
	// The end of a line of a letter is the letter's.
	o := run(t, three(), feed(0, append(begun("ann"), "s: t", "", "a\nb\rc", "..", ".")...), sync)
	is(t, "state", o.States[0], boxes(inbox("s: t\r\n\r\na\nb\rc\r\n.\r\n")))
}

// P13.3: connections are each of their own.
func TestConnections(t *testing.T) {
	for a := range api.MaxConns {
		for b := range api.MaxConns {
			if a == b {
				continue
			}
			o := run(t, three(), raw(a, "LHLO a\r\nNO"), feed(b, "NOOP", "MAIL FROM:<joe@z>", "QUIT"), raw(a, "OP\r\nMAIL FROM:<joe@z>\r\n"), raw(b, "RSET\r\n"))
			is(t, "codes", o.Codes[a], []int{250, 250, 250})
			is(t, "codes", o.Codes[b], []int{250, 503, 221, 250})
		}
	}
}

// P13.3: the known ones are the Locals of all users, byte by byte, whatever the domain.
func TestKnown(t *testing.T) {
	o := run(t, three(), feed(0, "LHLO a", "MAIL FROM:<joe@z>", "RCPT TO:<ann@a>", "RCPT TO:<bob@b>", "RCPT TO:<cid@c>", "RCPT TO:<dan@y>", "RCPT TO:<Ann@a>", "RCPT TO:<joe@z>"))
	codes(t, o, []int{250, 250, 250, 250, 250, 550, 550, 550})
	o = run(t, three()[1:2], feed(0, "LHLO a", "MAIL FROM:<joe@z>", "RCPT TO:<ann@a>", "RCPT TO:<bob@b>", "RCPT TO:<cid@c>"))
	codes(t, o, []int{250, 250, 550, 250, 550})
}

// P13.3: behind a letter that waits nothing goes to the session until the Sync, and then all of it, up to the next one.
func TestWaits(t *testing.T) {
	two := raw(0, letter(0, "s: 1", "ann").Data+"NOOP\r\n"+letter(0, "s: 2", "ann").Data+"x\r\n")
	o := run(t, three(), two)
	codes(t, o, fresh(1))
	is(t, "waits", o.Waits, 1)
	o = run(t, three(), two, raw(0, "QUIT"), raw(0, "\r\n"), feed(0, "NOOP"))
	codes(t, o, fresh(1))
	o = run(t, three(), two, feed(0, "NOOP"), sync)
	codes(t, o, slices.Concat(fresh(1, 250), []int{250}, fresh(1)))
	is(t, "waits", o.Waits, 1)
	is(t, "state", o.States[0], boxes(inbox(whole("s: 1"))))
	o = run(t, three(), two, feed(0, "NOOP"), sync, sync)
	codes(t, o, slices.Concat(fresh(1, 250), []int{250}, fresh(1, 250), []int{500, 250}))
	is(t, "waits", o.Waits, 0)
	is(t, "state", o.States[0], boxes(inbox(whole("s: 1"), whole("s: 2"))))
	// Others go on meanwhile.
	o = run(t, three(), two, letter(1, "s: 3", "ann"), feed(2, "NOOP"), sync, sync)
	is(t, "codes", o.Codes[1:], [][]int{fresh(1, 250), {250}})
	is(t, "state", o.States[0], boxes(inbox(whole("s: 1"), whole("s: 3"), whole("s: 2"))))
}

// P13.2: at a Sync they work one by one, from the first one on, whoever waited first.
func TestSyncInOrder(t *testing.T) {
	l := []api.Act{letter(2, "s: a", "ann"), letter(1, "s: b", "ann"), letter(0, "s: c", "ann")}
	for i := range l {
		l[i].Data += letter(0, "s: "+string(rune('0'+l[i].Conn)), "ann").Data
	}
	o := run(t, three(), append(l, sync, sync)...)
	codes(t, o, slices.Concat(fresh(1, 250), fresh(1, 250)), slices.Concat(fresh(1, 250), fresh(1, 250)), slices.Concat(fresh(1, 250), fresh(1, 250)))
	is(t, "state", o.States[0], boxes(inbox(whole("s: a"), whole("s: b"), whole("s: c"), whole("s: 0"), whole("s: 1"), whole("s: 2"))))
}

// P13.3: a connection that is Over drops what it holds; P13.2: it is Fresh when something comes again.
func TestOver(t *testing.T) {
	codes(t, run(t, three(), feed(0, "LHLO a", "QUIT", "NOOP", "NOOP")), []int{250, 221})
	codes(t, run(t, three(), raw(0, "QUIT\r\nNO"), raw(0, "OP\r\nNOOP\r\n")), []int{221, 500, 250})
	codes(t, run(t, three(), feed(0, "LHLO a", "QUIT"), raw(0, ""), sync, feed(0, "MAIL FROM:<joe@z>", "LHLO a", "MAIL FROM:<joe@z>")), []int{250, 221, 503, 250, 250})
	codes(t, run(t, three(), feed(0, "LHLO a"), feed(0, "QUIT"), feed(0, "QUIT"), feed(0, "QUIT")), []int{250, 221, 221, 221})
	o := run(t, three(), letter(0, "s: t", "ann"), feed(0, "QUIT", "NOOP"), sync, letter(0, "s: u", "ann"), sync)
	codes(t, o, slices.Concat(fresh(1, 250, 221), fresh(1, 250)))
	is(t, "state", o.States[0], boxes(inbox(whole("s: t"), whole("s: u"))))
}

// P13.3: it may hold MaxHeld bytes, be there a line at last or not.
func TestHeld(t *testing.T) {
	most := strings.Repeat("x", api.MaxHeld)
	// What is a whole line is not held any more when the bytes are counted.
	codes(t, run(t, three(), feed(0, "LHLO a"), raw(0, most), raw(0, "\r\nMAIL FROM:<joe@z>\r\n")), []int{250, 500, 250})
	codes(t, run(t, three(), feed(0, "LHLO a"), raw(0, most[:1]), raw(0, most[2:]+"\r"), raw(0, "\nMAIL FROM:<joe@z>\r\n")), []int{250, 500, 250})
	codes(t, run(t, three(), feed(0, "LHLO a"), raw(0, most), raw(0, "\r\n"+most[2:]), feed(0, "", "MAIL FROM:<joe@z>")), []int{250, 500, 500, 250})
	// One more, and it is Over: nothing is told, and what comes then is a session's beginning.
	codes(t, run(t, three(), feed(0, "LHLO a"), raw(0, most), raw(0, "x"), feed(0, "MAIL FROM:<joe@z>")), []int{250, 503})
	codes(t, run(t, three(), feed(0, "LHLO a"), raw(0, most), raw(0, "\r"), feed(0, "", "NOOP")), []int{250, 500, 250})
	codes(t, run(t, three(), feed(0, "LHLO a"), raw(0, most), raw(0, most), raw(0, "\r\n")), []int{250, 500})
	codes(t, run(t, three(), feed(0, "LHLO a"), raw(0, most), raw(0, "\r\nNOOP\r\n"+most[8:]), raw(0, "xxxxxxxx"), raw(0, "x"), feed(0, "MAIL FROM:<joe@z>")), []int{250, 500, 250, 503})
	// A letter that had begun is forgotten.
	o := run(t, three(), feed(0, append(begun("ann"), "s: t", "")...), raw(0, most), raw(0, "x"), feed(0, ".", "NOOP"), sync)
	codes(t, o, fresh(1, 500, 250))
	is(t, "state", o.States[0], boxes(inbox()))
}

// P13.3: while it waits whole lines count, too; if there are too many it is Over, and is not told of what waited, which is there all the same.
func TestHeldWhileItWaits(t *testing.T) {
	noops := strings.Repeat("NOOP\r\n", api.MaxHeld/6)
	o := run(t, three(), letter(0, "s: t", "ann"), raw(0, noops))
	codes(t, o, fresh(1))
	o = run(t, three(), letter(0, "s: t", "ann"), raw(0, noops), sync)
	codes(t, o, fresh(1, slices.Repeat([]int{250}, 1+api.MaxHeld/6)...))
	o = run(t, three(), letter(0, "s: t", "ann"), raw(0, noops), raw(0, "N"))
	codes(t, o, fresh(1))
	is(t, "waits", o.Waits, 1)
	o = run(t, three(), letter(0, "s: t", "ann"), raw(0, noops), raw(0, "N"), sync)
	codes(t, o, fresh(1))
	is(t, "waits", o.Waits, 0)
	is(t, "state", o.States[0], boxes(inbox(whole("s: t"))))
	// It may begin anew ahead of the Sync, and is told just of what waits then.
	o = run(t, three(), letter(0, "s: t", "ann", "bob"), raw(0, noops), raw(0, "N"), feed(0, "MAIL FROM:<joe@z>"), letter(0, "s: u", "ann"), sync)
	codes(t, o, slices.Concat(fresh(2, 503), fresh(1, 250)))
	is(t, "state", o.States[0], boxes(inbox(whole("s: t"), whole("s: u"))))
	is(t, "state", o.States[1], boxes(inbox(whole("s: t"))))
	// What is held when it begins to wait counts as well.
	first := letter(0, "s: t", "ann").Data
	o = run(t, three(), raw(0, first+noops[:api.MaxHeld-len(first)]), raw(0, noops[:len(first)]), sync)
	if l := o.Codes[0]; len(l) < 5 || l[4] != 250 {
		t.Errorf("codes %v", l)
	}
	o = run(t, three(), raw(0, first+noops[:api.MaxHeld-len(first)]), raw(0, noops[:len(first)]), raw(0, "x"), sync)
	codes(t, o, fresh(1))
}
