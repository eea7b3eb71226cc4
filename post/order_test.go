package post_test

import (
	"slices"
	"strings"
	"testing"

	"postroom/api"
)

// orders that each user is told of.
func orders(t *testing.T, o api.Outcome, want ...[]api.Errno) {
	t.Helper()
	for len(want) < len(o.Orders) {
		want = append(want, nil)
	}
	is(t, "orders", o.Orders, want)
}

// P13.5: an order is a batch that waits; P13.2: at the Sync it is told.
func TestOrders(t *testing.T) {
	l := []api.Act{order(0, create("work")), order(1, written("x")), order(0, api.Entry{Kind: api.Append, Box: "work", Flags: api.Seen, Text: "y"})}
	o := run(t, three(), l...)
	orders(t, o)
	is(t, "waits", o.Waits, 3)
	is(t, "states", o.States, []api.State{boxes(inbox()), boxes(inbox()), boxes(inbox())})
	o = run(t, three(), append(l, sync)...)
	orders(t, o, []api.Errno{api.OK, api.OK}, []api.Errno{api.OK})
	is(t, "waits", o.Waits, 0)
	work := filled("work", "y")
	work.Mails[0].Flags = api.Seen
	is(t, "states", o.States, []api.State{boxes(inbox(), work), boxes(inbox("x")), boxes(inbox())})
	// They are told just once.
	orders(t, run(t, three(), append(l, sync, sync, order(1, create("a")), sync, sync)...), []api.Errno{api.OK, api.OK}, []api.Errno{api.OK, api.OK})
}

// P13.5: all kinds that a user may order.
func TestKindsOfOrders(t *testing.T) {
	o := run(t, three(), order(0, create("work")), order(0, written("x")), order(0, written("y")),
		order(0, api.Entry{Kind: api.Flag, Box: "INBOX", Uid: 1, Flags: api.Deleted}), order(0, api.Entry{Kind: api.Copy, Box: "INBOX", Uid: 2, To: "work"}), order(0, api.Entry{Kind: api.Expunge, Box: "INBOX"}), sync)
	orders(t, o, slices.Repeat([]api.Errno{api.OK}, 6))
	is(t, "state", o.States[0], boxes(api.Box{Name: "INBOX", Next: 3, Mails: []api.Mail{{Uid: 2, Text: "y"}}}, filled("work", "y")))
}

// P13.5: what is wrong is told at once, ahead of what waits, and changes nothing.
func TestWrongOrders(t *testing.T) {
	long := strings.Repeat("x", api.MaxText+1)
	for _, c := range []struct {
		x api.Entry
		e api.Errno
	}{
		{api.Entry{}, api.ErrKind},                                                             // what Form refuses
		{api.Entry{Kind: 7, Box: "a b"}, api.ErrKind},                                          //
		{api.Entry{Kind: api.Create, Box: "a", Uid: 1}, api.ErrForm},                           //
		{api.Entry{Kind: api.Create, Box: "a b"}, api.ErrForm},                                 //
		{api.Entry{Kind: api.Append, Box: "INBOX", Flags: 32}, api.ErrRange},                   //
		{api.Entry{Kind: api.Append, Box: "none", Text: long}, api.ErrSize},                    //
		{api.Entry{Kind: api.Spool, To: "a@b", Text: long}, api.ErrSize},                       //
		{api.Entry{Kind: api.Spool, To: "a"}, api.ErrForm},                                     //
		{api.Entry{Kind: api.Spool, Box: "a", To: "a@b"}, api.ErrForm},                         //
		{api.Entry{Kind: api.Spool, To: "a@b", Text: "x"}, api.ErrKind},                        // it is a Spool
		{create("INBOX"), api.ErrTwice},                                                        // what Apply refuses
		{api.Entry{Kind: api.Append, Box: "none"}, api.ErrNone},                                //
		{api.Entry{Kind: api.Flag, Box: "INBOX", Uid: 9}, api.ErrNone},                         //
		{api.Entry{Kind: api.Copy, Box: "INBOX", Uid: 1, To: "none"}, api.ErrNone},             //
		{api.Entry{Kind: api.Expunge, Box: "inbox"}, api.ErrNone},                              //
		{api.Entry{Kind: api.Append, Box: "work", Text: strings.Repeat("x", 10)}, api.ErrNone}, // that box is another one's
	} {
		l := []api.Act{order(0, written("x")), order(1, create("work"))}
		o := run(t, three(), append(l, order(0, c.x))...)
		orders(t, o, []api.Errno{c.e})
		is(t, "waits", o.Waits, 2)
		o = run(t, three(), append(l, order(0, c.x), sync, order(0, c.x))...)
		orders(t, o, []api.Errno{c.e, api.OK, c.e}, []api.Errno{api.OK})
		is(t, "states", o.States, []api.State{boxes(inbox("x")), boxes(inbox(), filled("work")), boxes(inbox())})
		// That it is down is told ahead of all else, that too many wait behind all these.
		orders(t, run(t, three(), crash(0), order(0, c.x), start, order(0, c.x)), []api.Errno{api.ErrState, c.e})
		full := slices.Repeat([]api.Act{order(0, written("x"))}, api.MaxWaits)
		orders(t, run(t, three(), append(full, order(0, c.x), order(0, written("y")))...), []api.Errno{c.e, api.ErrFull})
	}
}

// P13.5: the state is the one behind all batches, those that wait, too: of orders, and of letters.
func TestOrdersBehindOthers(t *testing.T) {
	o := run(t, three(), order(0, create("a")), order(0, create("a")), order(1, create("a")), sync)
	orders(t, o, []api.Errno{api.ErrTwice, api.OK}, []api.Errno{api.OK})
	flag := order(0, api.Entry{Kind: api.Flag, Box: "INBOX", Uid: 1, Flags: api.Seen})
	o = run(t, three(), flag, letter(0, "s: t", "ann"), flag, sync)
	orders(t, o, []api.Errno{api.ErrNone, api.OK})
	is(t, "mail", o.States[0].Boxes[0].Mails, []api.Mail{{Uid: 1, Flags: api.Seen, Text: whole("s: t")}})
	// A letter is filed into a box that is ordered, and waits.
	o = run(t, three(), letter(0, "s: 1", "bob"), order(1, create("work")), letter(1, "s: 2", "bob"), sync)
	is(t, "state", o.States[1], boxes(inbox(whole("s: 1")), filled("work", whole("s: 2"))))
}

// P13.5: MaxWaits batches wait: not one more, whoever orders it, until they are synced.
func TestOrdersThatWait(t *testing.T) {
	var l []api.Act
	for i := range api.MaxWaits {
		l = append(l, order(i%2, written("x")))
	}
	o := run(t, three(), append(l, order(0, create("a")), order(2, create("a")))...)
	orders(t, o, []api.Errno{api.ErrFull}, nil, []api.Errno{api.ErrFull})
	is(t, "waits", o.Waits, api.MaxWaits)
	o = run(t, three(), append(l, order(0, create("a")), sync, order(2, create("a")))...)
	orders(t, o, []api.Errno{api.ErrFull, api.OK, api.OK, api.OK, api.OK}, slices.Repeat([]api.Errno{api.OK}, 4))
	is(t, "waits", o.Waits, 1)
	// Batches of letters count as well.
	letters := []api.Act{letter(0, "s: t", "ann", "bob"), sync, letter(0, "s: t", "ann", "bob"), letter(1, "s: t", "ann", "bob"), letter(2, "s: t", "ann", "bob")}
	o = run(t, three(), append(letters, order(0, create("a")), order(1, create("a")), order(2, create("a")))...)
	orders(t, o, nil, nil, []api.Errno{api.ErrFull})
}

// P13.5: an order of a user that there is not: nothing, be it up or down.
func TestNobodyOrders(t *testing.T) {
	for user := 1; user < api.MaxUsers; user++ {
		for _, x := range []api.Entry{create("a"), create("INBOX"), {}, entry} {
			users := three()[:user]
			is(t, "up", run(t, users, order(user, x), sync), run(t, users))
			is(t, "down", run(t, users, crash(0), order(user, x)), run(t, users, crash(0)))
		}
	}
}
