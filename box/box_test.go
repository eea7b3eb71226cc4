package box_test

import (
	"fmt"
	"slices"
	"strings"
	"testing"

	"postroom/api"
	"postroom/box"
)

// far numbers, which are outside all bounds.
var far = []int{-1 << 63, -1<<63 + 1, -1 << 31, 1 << 31, 1 << 40, 1<<63 - 1}

// text of so many bytes.
func text(n int) string { return strings.Repeat("t", n) }

// name of a box, one for each number.
func name(i int) string { return "box" + string([]byte{'a' + byte(i)}) }

// boxOf a name, a Next and mails.
func boxOf(name string, next int, l ...api.Mail) api.Box {
	return api.Box{Name: name, Next: next, Mails: l}
}

// mail of its parts.
func mail(uid, flags int, text string) api.Mail {
	return api.Mail{Uid: uid, Flags: flags, Text: text}
}

// mails with the Uids from 1 on, each of so many bytes.
func mails(many, size int) []api.Mail {
	var l []api.Mail
	for i := range many {
		l = append(l, mail(i+1, 0, text(size)))
	}
	return l
}

// stateOf boxes, without a Spool.
func stateOf(l ...api.Box) api.State { return api.State{Boxes: l} }

// What entries are made of.
func create(name string) api.Entry  { return api.Entry{Kind: api.Create, Box: name} }
func expunge(name string) api.Entry { return api.Entry{Kind: api.Expunge, Box: name} }
func add(name string, flags int, text string) api.Entry {
	return api.Entry{Kind: api.Append, Box: name, Flags: flags, Text: text}
}
func flag(name string, uid, flags int) api.Entry {
	return api.Entry{Kind: api.Flag, Box: name, Uid: uid, Flags: flags}
}
func copied(name string, uid int, to string) api.Entry {
	return api.Entry{Kind: api.Copy, Box: name, Uid: uid, To: to}
}
func spool(to, text string) api.Entry {
	return api.Entry{Kind: api.Spool, To: to, Text: text}
}

// short: the beginning of what a value is told as.
func short(v any) string {
	s := strings.ToValidUTF8(fmt.Sprintf("%+v", v), "?")
	return s[:min(len(s), 300)]
}

// sameState: lists without elements are the same, be they nil or not.
func sameState(a, b api.State) bool {
	return slices.Equal(a.Spool, b.Spool) && slices.EqualFunc(a.Boxes, b.Boxes, func(c, d api.Box) bool {
		return c.Name == d.Name && c.Next == d.Next && slices.Equal(c.Mails, d.Mails)
	})
}

// all: All answers this state, which may be.
func all(t *testing.T, s, want api.State, l ...api.Entry) {
	t.Helper()
	got, e := box.All(s, l)
	if e != api.OK || !sameState(got, want) {
		t.Errorf("All(%s, %s) = %s, %d; want %s, 0", short(s), short(l), short(got), e, short(want))
	}
	if e := box.Check(got); e != api.OK {
		t.Errorf("Check(%s) = %d behind %s", short(got), e, short(l))
	}
}

// refused: All answers this error, and a state without anything.
func refused(t *testing.T, want api.Errno, s api.State, l ...api.Entry) {
	t.Helper()
	got, e := box.All(s, l)
	if e != want || len(got.Boxes) != 0 || len(got.Spool) != 0 {
		t.Errorf("All(%s, %s) = %s, %d; want nothing, %d", short(s), short(l), short(got), e, want)
	}
}

// done: an entry that is applied, alone, and as a batch of one, makes this state.
func done(t *testing.T, s api.State, x api.Entry, want api.State) {
	t.Helper()
	got, e := box.Apply(s, x)
	if e != api.OK || !sameState(got, want) {
		t.Errorf("Apply(%s, %s) = %s, %d; want %s, 0", short(s), short(x), short(got), e, short(want))
	}
	all(t, s, want, x)
}

// fails: an entry that is applied, alone, and as a batch of one, is refused.
func fails(t *testing.T, want api.Errno, s api.State, x api.Entry) {
	t.Helper()
	got, e := box.Apply(s, x)
	if e != want || len(got.Boxes) != 0 || len(got.Spool) != 0 {
		t.Errorf("Apply(%s, %s) = %s, %d; want nothing, %d", short(s), short(x), short(got), e, want)
	}
	refused(t, want, s, x)
}

// P9.5: any number of entries up to MaxBatch, none too; more of them are refused, whatever they are.
func TestBatchSizes(t *testing.T) {
	start := stateOf(boxOf("a", 1))
	for n := range api.MaxBatch + 1 {
		all(t, start, stateOf(boxOf("a", n+1, mails(n, 3)...)), slices.Repeat([]api.Entry{add("a", 0, text(3))}, n)...)
	}
	if got, e := box.All(start, nil); e != api.OK || !sameState(got, start) {
		t.Errorf("All of none: %v, %d", got, e)
	}
	if got, e := box.All(api.State{}, []api.Entry{}); e != api.OK || !sameState(got, api.State{}) {
		t.Errorf("All of none, of nothing: %v, %d", got, e)
	}
	for _, x := range []api.Entry{add("a", 0, ""), {}, create("a"), flag("a", 1, 0), add("a", 99, ""), add("none", 0, "")} {
		for _, n := range []int{1, 2, 100, 100000} {
			refused(t, api.ErrSize, start, slices.Repeat([]api.Entry{x}, api.MaxBatch+n)...)
		}
	}
}

// P9.5: each entry is done behind those ahead of it.
func TestBatchOneBehindTheOther(t *testing.T) {
	all(t, api.State{}, api.State{
		Boxes: []api.Box{boxOf("a", 3, mail(2, api.Seen, "y")), boxOf("b", 2, mail(1, api.Deleted, "x"))},
		Spool: []api.Entry{spool("c@d", "x"), spool("a@b", "y")},
	}, create("a"), add("a", 0, "x"), create("b"), add("a", api.Seen, "y"), flag("a", 1, api.Deleted), spool("c@d", "x"), copied("a", 1, "b"), spool("a@b", "y"), expunge("a"))
	all(t, stateOf(boxOf("a", 1)), stateOf(boxOf("a", 2)), add("a", api.Deleted, ""), expunge("a"))
	all(t, stateOf(boxOf("a", 1)), stateOf(boxOf("a", 2, mail(1, api.Deleted, ""))), expunge("a"), add("a", api.Deleted, ""))
	refused(t, api.ErrNone, stateOf(boxOf("a", 1)), add("a", api.Deleted, ""), expunge("a"), flag("a", 1, 0))
	refused(t, api.ErrTwice, api.State{}, create("a"), create("a"))
	refused(t, api.ErrNone, api.State{}, add("a", 0, ""), create("a"))
}

// P9.5: entry by entry: what is refused of one is told ahead of all that is wrong with those behind it.
func TestBatchFirstError(t *testing.T) {
	s := stateOf(boxOf("a", 1), boxOf("full", api.MaxUid+1))
	wrong := []struct {
		x api.Entry
		e api.Errno
	}{
		{api.Entry{}, api.ErrKind},
		{api.Entry{Kind: api.Create, Box: "b", Uid: 1}, api.ErrForm},
		{create(""), api.ErrSize},
		{create(" "), api.ErrForm},
		{add("a", 32, ""), api.ErrRange},
		{add("a", 0, text(api.MaxText+1)), api.ErrSize},
		{spool("a", ""), api.ErrForm},
		{create("a"), api.ErrTwice},
		{add("b", 0, ""), api.ErrNone},
		{flag("a", 99, 0), api.ErrNone},
		{add("full", 0, ""), api.ErrFull},
	}
	good := add("a", 0, "x")
	for _, v := range wrong {
		fails(t, v.e, s, v.x)
		for _, w := range wrong {
			refused(t, v.e, s, v.x, w.x)
			refused(t, v.e, s, good, v.x, w.x)
			refused(t, v.e, s, v.x, good, w.x)
			refused(t, w.e, s, w.x, good, v.x)
		}
		refused(t, v.e, s, append(slices.Repeat([]api.Entry{good}, api.MaxBatch-1), v.x)...)
		refused(t, api.ErrSize, s, append(slices.Repeat([]api.Entry{good}, api.MaxBatch), v.x)...)
	}
}

// What comes of it: Uids of a box rise for ever.
func TestUidsRise(t *testing.T) {
	s, e := box.All(api.State{}, []api.Entry{create("a"), create("b")})
	last := map[string]int{}
	for i := range 200 {
		from, to := "a", "b"
		if i%3 == 0 {
			from, to = "b", "a"
		}
		if s, e = box.All(s, []api.Entry{add(from, api.Deleted, "x"), expunge(to), copied(from, last[from]+1, from)}); e != api.OK {
			t.Fatal(i, e)
		}
		for _, b := range s.Boxes {
			if b.Next <= last[b.Name] || b.Name == from && b.Next != last[from]+3 {
				t.Fatalf("the Next of %s is %d, and was above %d", b.Name, b.Next, last[b.Name])
			}
			last[b.Name] = b.Next - 1
		}
	}
}
