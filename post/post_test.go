package post_test

import (
	"fmt"
	"slices"
	"strings"
	"testing"

	"postroom/api"
	"postroom/post"
)

// Users whose scripts ask for this and that.
var (
	ann = api.User{Local: "ann"}
	bob = api.User{Local: "bob", Script: `require "fileinto"; fileinto "work";`}
	cid = api.User{Local: "cid", Script: `discard;`}
)

// three users: there are no more.
func three() []api.User { return []api.User{ann, bob, cid} }

// Acts that have nothing but their Kind.
var (
	sync  = api.Act{Kind: api.Sync}
	start = api.Act{Kind: api.Start}
)

// raw bytes that come from a connection.
func raw(conn int, data string) api.Act { return api.Act{Kind: api.Feed, Conn: conn, Data: data} }

// feed lines, each with its end.
func feed(conn int, lines ...string) api.Act { return raw(conn, strings.Join(lines, "\r\n")+"\r\n") }

// crash behind which so many bytes stay.
func crash(keep int) api.Act { return api.Act{Kind: api.Crash, Keep: keep} }

// order of a user.
func order(user int, x api.Entry) api.Act { return api.Act{Kind: api.Order, User: user, Entry: x} }

// create a box.
func create(name string) api.Entry { return api.Entry{Kind: api.Create, Box: name} }

// written: an Append to the inbox.
func written(text string) api.Entry { return api.Entry{Kind: api.Append, Box: "INBOX", Text: text} }

// begun: the lines of a session up to the ones of its letter.
func begun(to ...string) []string {
	l := []string{"LHLO a", "MAIL FROM:<joe@z>"}
	for _, x := range to {
		l = append(l, "RCPT TO:<"+x+"@y>")
	}
	return append(l, "DATA")
}

// letter with one field and an empty body to some, in a session of its own.
func letter(conn int, field string, to ...string) api.Act {
	return feed(conn, append(begun(to...), field, "", ".")...)
}

// whole text of such a letter.
func whole(field string) string { return field + "\r\n\r\n" }

// fresh: the codes of a session up to the lines of its letter to so many, then others.
func fresh(to int, others ...int) []int {
	return append(append(slices.Repeat([]int{250}, 2+to), 354), others...)
}

// inbox of mails with these texts, which have the first Uids.
func inbox(texts ...string) api.Box { return filled("INBOX", texts...) }

// filled box.
func filled(name string, texts ...string) api.Box {
	b := api.Box{Name: name, Next: 1}
	for _, s := range texts {
		b.Mails = append(b.Mails, api.Mail{Uid: b.Next, Text: s})
		b.Next++
	}
	return b
}

// boxes of a state without a Spool.
func boxes(l ...api.Box) api.State { return api.State{Boxes: l} }

// text of a value: lists without elements are the same, nil or not.
func text(v any) string { return fmt.Sprintf("%+q", v) }

// short: the beginning of what a value is told as.
func short(v any) string {
	s := strings.ToValidUTF8(fmt.Sprintf("%+v", v), "?")
	return fmt.Sprintf("%.700q", s)
}

// run a script that is not refused.
func run(t *testing.T, users []api.User, l ...api.Act) api.Outcome {
	t.Helper()
	o, e := post.Run(users, l)
	if e != api.OK {
		t.Fatalf("Run(%s, %s) is refused with %d", short(users), short(l), e)
	}
	if len(o.Codes) != api.MaxConns || len(o.Orders) != len(users) || len(o.States) != len(users) {
		t.Fatalf("Run(%s, %s): %d lists of codes, %d of orders, %d states", short(users), short(l), len(o.Codes), len(o.Orders), len(o.States))
	}
	return o
}

// is: a part of an outcome is as it should be.
func is(t *testing.T, what string, got, want any) {
	t.Helper()
	if text(got) != text(want) {
		t.Errorf("%s: %s; want %s", what, short(got), short(want))
	}
}

// codes that the connections are told.
func codes(t *testing.T, o api.Outcome, want ...[]int) {
	t.Helper()
	for len(want) < api.MaxConns {
		want = append(want, nil)
	}
	is(t, "codes", o.Codes, want)
}

// The document's example of the whole.
func TestExample(t *testing.T) {
	l := []api.Act{feed(0, "LHLO a", "MAIL FROM:<b@c>", "RCPT TO:<ann@d>", "DATA", "s: t", "", "hello", ".")}
	o := run(t, []api.User{ann}, l...)
	is(t, "ahead of the Sync", o, api.Outcome{Up: true, Codes: [][]int{fresh(1), nil, nil}, Orders: [][]api.Errno{nil}, States: []api.State{boxes(inbox())}, Waits: 1})
	o = run(t, []api.User{ann}, append(l, sync)...)
	is(t, "behind the Sync", o, api.Outcome{Up: true, Codes: [][]int{fresh(1, 250), nil, nil}, Orders: [][]api.Errno{nil}, States: []api.State{boxes(inbox("s: t\r\n\r\nhello\r\n"))}})
}

// P13.2, P13.6: how a postroom begins.
func TestBegins(t *testing.T) {
	for n := range 3 {
		users := three()[:n+1]
		want := api.Outcome{Up: true, Codes: make([][]int, 3), Orders: make([][]api.Errno, n+1), States: slices.Repeat([]api.State{boxes(inbox())}, n+1)}
		is(t, "nothing done", run(t, users), want)
		is(t, "nothing to sync", run(t, users, sync, start, sync), want)
		is(t, "nothing comes", run(t, users, raw(0, ""), raw(1, ""), raw(2, "")), want)
		want.Up = false
		is(t, "down", run(t, users, crash(0)), want)
		want.Up = true
		is(t, "up again", run(t, users, crash(api.MaxBytes), start), want)
	}
	// Sessions are Fresh: they have not told who they are.
	for conn := range api.MaxConns {
		o := run(t, three(), feed(conn, "MAIL FROM:<joe@z>", "LHLO a", "MAIL FROM:<joe@z>"))
		is(t, "codes", o.Codes[conn], []int{503, 250, 250})
	}
}

// What comes of it: a letter that was answered by 250 is there just once, behind each crash; one that was not is nowhere.
func TestWhatComesOfIt(t *testing.T) {
	l := []api.Act{letter(0, "s: 1", "ann"), sync, letter(0, "s: 2", "ann"), crash(20), start, letter(0, "no field", "ann"), letter(0, "s: 3", "ann"), crash(0), start, letter(1, "s: 4", "ann"), sync, crash(api.MaxBytes)}
	o := run(t, []api.User{ann}, l...)
	codes(t, o, slices.Concat(fresh(1, 250), fresh(1), fresh(1, 554), fresh(1)), fresh(1, 250))
	is(t, "states", o.States, []api.State{boxes(inbox(whole("s: 1"), whole("s: 4")))})
}
