package book_test

import (
	"bytes"
	"fmt"
	"slices"
	"strings"
	"testing"

	"postroom/api"
	"postroom/book"
)

// far numbers, which are outside all bounds.
var far = []int{-1 << 63, -1<<63 + 1, -1 << 31, 1 << 31, 1 << 40, 1<<63 - 1}

// text of so many bytes.
func text(n int) string { return strings.Repeat("t", n) }

// What entries are made of.
func create(name string) api.Entry  { return api.Entry{Kind: api.Create, Box: name} }
func expunge(name string) api.Entry { return api.Entry{Kind: api.Expunge, Box: name} }
func add(name string, flags int, text string) api.Entry {
	return api.Entry{Kind: api.Append, Box: name, Flags: flags, Text: text}
}
func flag(name string, uid, flags int) api.Entry {
	return api.Entry{Kind: api.Flag, Box: name, Uid: uid, Flags: flags}
}
func copied(name string, uid int, to string) api.Entry {
	return api.Entry{Kind: api.Copy, Box: name, Uid: uid, To: to}
}
func spool(to, text string) api.Entry {
	return api.Entry{Kind: api.Spool, To: to, Text: text}
}

// batch of a user.
func batch(user int, l ...api.Entry) api.Batch { return api.Batch{User: user, Entries: l} }

// tape of bytes.
func tape(synced int, l ...byte) api.Tape { return api.Tape{Data: l, Synced: synced} }

// short: the beginning of what a value is told as.
func short(v any) string {
	s := strings.ToValidUTF8(fmt.Sprintf("%+v", v), "?")
	return s[:min(len(s), 300)]
}

// Lists without elements are the same, be they nil or not.
func sameBatch(a, b api.Batch) bool {
	return a.User == b.User && slices.Equal(a.Entries, b.Entries)
}
func sameTape(a, b api.Tape) bool {
	return a.Synced == b.Synced && bytes.Equal(a.Data, b.Data)
}
func sameState(a, b api.State) bool {
	return slices.Equal(a.Spool, b.Spool) && slices.EqualFunc(a.Boxes, b.Boxes, func(c, d api.Box) bool {
		return c.Name == d.Name && c.Next == d.Next && slices.Equal(c.Mails, d.Mails)
	})
}

// refusal: an entry or batch, and the error that tells what is wrong with it.
type refusal[E any] struct {
	it E
	e  api.Errno
}

// wrongEntries, each refused for something else, as bytes may tell them: so they may be decoded.
func wrongEntries() []refusal[api.Entry] {
	return []refusal[api.Entry]{
		{api.Entry{}, api.ErrKind},
		{api.Entry{Kind: 7, Box: "a"}, api.ErrKind},
		{api.Entry{Kind: 255, Uid: 1<<24 - 1, Flags: 255}, api.ErrKind},
		{api.Entry{Kind: api.Create, Box: "b", Uid: 1}, api.ErrForm},
		{api.Entry{Kind: api.Append, Box: "b", To: "c"}, api.ErrForm},
		{api.Entry{Kind: api.Spool, To: "a@b", Flags: 1}, api.ErrForm},
		{add("a", 32, ""), api.ErrRange},
		{flag("a", 1, 255), api.ErrRange},
		{flag("a", api.MaxUid+1, 0), api.ErrRange},
		{copied("a", 1<<24-1, "b"), api.ErrRange},
		{add("a", 0, text(api.MaxText+1)), api.ErrSize},
		{spool("a@b", text(1<<16-1)), api.ErrSize},
		{create(""), api.ErrSize},
		{create(text(api.MaxName + 1)), api.ErrSize},
		{expunge(" "), api.ErrForm},
		{copied("a", 1, ""), api.ErrSize},
		{copied("a", 1, "\x00"), api.ErrForm},
		{spool("a", ""), api.ErrForm},
		{spool("a@b,c@d", ""), api.ErrForm},
		{spool(text(api.MaxPattern)+"@b", ""), api.ErrForm},
	}
}

// wrongBatches that bytes may tell.
func wrongBatches() []refusal[api.Batch] {
	good := add("a", 0, "x")
	l := []refusal[api.Batch]{
		{batch(api.MaxUsers, good), api.ErrRange},
		{batch(255, good), api.ErrRange},
		{batch(api.MaxUsers), api.ErrRange},
		{batch(api.MaxUsers, api.Entry{}), api.ErrRange},
		{batch(255, slices.Repeat([]api.Entry{good}, 255)...), api.ErrRange},
		{batch(0), api.ErrSize},
		{batch(api.MaxUsers - 1), api.ErrSize},
		{batch(0, slices.Repeat([]api.Entry{good}, api.MaxBatch+1)...), api.ErrSize},
		{batch(0, slices.Repeat([]api.Entry{good}, 255)...), api.ErrSize},
		{batch(0, slices.Repeat([]api.Entry{{}}, api.MaxBatch+1)...), api.ErrSize},
	}
	for _, w := range wrongEntries() {
		l = append(l, refusal[api.Batch]{batch(0, w.it), w.e}, refusal[api.Batch]{batch(2, good, w.it), w.e})
	}
	return l
}

// goodBatches, with entries of all kinds, and with the least and the most of everything.
func goodBatches() []api.Batch {
	return []api.Batch{
		batch(0, create("INBOX")),
		batch(1, expunge("!"), expunge("~~~~~~~~~~~~")),
		batch(2, add("a", 0, ""), add("a", 31, text(api.MaxText)), add("a", 16, "\x00\r\n\xff\x80")),
		batch(0, flag("a", 0, 0), flag("a", api.MaxUid, 31), flag("a", 258, 3)),
		batch(1, copied("a", 1, "b"), copied("a", 65536, "a")),
		batch(2, spool("a@b", ""), spool("Ann <"+text(api.MaxPattern-8)+"@b>", text(api.MaxText))),
		batch(1, slices.Repeat([]api.Entry{add(text(api.MaxName), 31, text(api.MaxText))}, api.MaxBatch)...),
	}
}

// checks: Check answers this.
func checks(t *testing.T, want api.Errno, b api.Batch) {
	t.Helper()
	if e := book.Check(b); e != want {
		t.Errorf("Check(%s) = %d, want %d", short(b), e, want)
	}
}

// P10.2: batches that may be.
func TestCheckGood(t *testing.T) {
	for _, b := range goodBatches() {
		checks(t, api.OK, b)
	}
	for user := range api.MaxUsers {
		for n := range api.MaxBatch {
			checks(t, api.OK, batch(user, slices.Repeat([]api.Entry{create("a")}, n+1)...))
		}
	}
	// Whether entries can be done, nobody asks.
	checks(t, api.OK, batch(0, create("a"), create("a"), flag("none", 9, 0)))
}

// P10.2: batches that may not be.
func TestCheckWrong(t *testing.T) {
	for _, w := range wrongBatches() {
		checks(t, w.e, w.it)
	}
	for _, n := range append(far, -1, api.MaxUsers) {
		for _, l := range [][]api.Entry{nil, {create("a")}, {{}}, make([]api.Entry, api.MaxBatch+1)} {
			checks(t, api.ErrRange, batch(n, l...))
		}
		if n != api.MaxUsers {
			checks(t, api.ErrRange, batch(0, flag("a", n, 0)))
			checks(t, api.ErrRange, batch(0, flag("a", 0, n)))
			checks(t, api.ErrKind, batch(0, api.Entry{Kind: n, Box: "a"}))
		}
	}
	checks(t, api.ErrSize, api.Batch{Entries: []api.Entry{}})
	checks(t, api.ErrSize, batch(0, make([]api.Entry, 100000)...))
	checks(t, api.ErrSize, batch(0, slices.Repeat([]api.Entry{create("a")}, 256+1)...))
	checks(t, api.ErrSize, batch(0, add("a", 0, text(1<<16))))
}

// P10.2: entry by entry: the first one that is refused is told.
func TestCheckFirst(t *testing.T) {
	for _, v := range wrongEntries() {
		for _, w := range wrongEntries() {
			checks(t, v.e, batch(0, v.it, w.it))
			checks(t, v.e, batch(0, create("a"), v.it, create("b"), w.it))
		}
		last := append(slices.Repeat([]api.Entry{create("a")}, api.MaxBatch-1), v.it)
		checks(t, v.e, batch(0, last...))
		checks(t, api.ErrSize, batch(0, append(last, v.it)...))
	}
}
