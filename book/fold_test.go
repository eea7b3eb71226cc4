package book_test

import (
	"slices"
	"testing"

	"postroom/api"
	"postroom/book"
)

// stateOf boxes, without a Spool.
func stateOf(l ...api.Box) api.State { return api.State{Boxes: l} }

// boxOf a name, a Next and mails.
func boxOf(name string, next int, l ...api.Mail) api.Box {
	return api.Box{Name: name, Next: next, Mails: l}
}

// mail of its parts.
func mail(uid, flags int, text string) api.Mail {
	return api.Mail{Uid: uid, Flags: flags, Text: text}
}

// folds: Fold answers this state.
func folds(t *testing.T, user int, want api.State, l ...api.Batch) {
	t.Helper()
	if got, e := book.Fold(l, user); e != api.OK || !sameState(got, want) {
		t.Errorf("Fold(%s, %d) = %s, %d; want %s, 0", short(l), user, short(got), e, short(want))
	}
}

// unfolded: Fold answers this error, and nothing else.
func unfolded(t *testing.T, want api.Errno, user int, l ...api.Batch) {
	t.Helper()
	if got, e := book.Fold(l, user); e != want || len(got.Boxes) != 0 || len(got.Spool) != 0 {
		t.Errorf("Fold(%s, %d) = %s, %d; want nothing, %d", short(l), user, short(got), e, want)
	}
}

// P10.9: without batches of theirs a user has an empty box.
func TestFoldNone(t *testing.T) {
	for user := range api.MaxUsers {
		folds(t, user, stateOf(boxOf("INBOX", 1)))
		folds(t, user, stateOf(boxOf("INBOX", 1)), batch((user+1)%3, create("a")), batch((user+2)%3, add("INBOX", 0, "x")))
	}
}

// P10.9: a user's batches, in order, and no other ones.
func TestFold(t *testing.T) {
	l := []api.Batch{
		batch(0, add("INBOX", 1, "x")),
		batch(1, create("work"), add("work", 0, "y"), copied("work", 1, "INBOX")),
		batch(0, add("INBOX", 8, "z"), spool("a@b", "w")),
		batch(1, flag("work", 1, 8)),
		batch(0, flag("INBOX", 1, 4)),
		batch(1, expunge("work"), spool("c@d", "v")),
		batch(0, add("INBOX", 0, "last")),
	}
	folds(t, 0, api.State{
		Boxes: []api.Box{boxOf("INBOX", 4, mail(1, 4, "x"), mail(2, 8, "z"), mail(3, 0, "last"))},
		Spool: []api.Entry{spool("a@b", "w")},
	}, l...)
	folds(t, 1, api.State{
		Boxes: []api.Box{boxOf("INBOX", 2, mail(1, 0, "y")), boxOf("work", 2)},
		Spool: []api.Entry{spool("c@d", "v")},
	}, l...)
	folds(t, 2, stateOf(boxOf("INBOX", 1)), l...)
}

// P10.9: a batch that is refused changes nothing, and those behind it are done.
func TestFoldRefused(t *testing.T) {
	one := batch(0, add("INBOX", 0, "x"))
	want := stateOf(boxOf("INBOX", 3, mail(1, 0, "x"), mail(2, 0, "x")))
	for _, l := range [][]api.Entry{
		{create("INBOX")},
		{add("INBOX", 0, "y"), create("INBOX")},
		{flag("INBOX", 1, 8), expunge("INBOX"), spool("a@b", ""), create("a"), add("none", 0, "")},
		{create("a"), copied("INBOX", 9, "a")},
		{copied("INBOX", 1, "none")},
		{flag("INBOX", 0, 0)},
		slices.Repeat([]api.Entry{add("INBOX", 0, text(api.MaxText))}, 4),
	} {
		folds(t, 0, want, one, batch(0, l...), one)
		folds(t, 0, want, batch(0, l...), one, batch(0, l...), one, batch(0, l...))
	}
	// Of those that fill a box up, all that find room are done.
	full := slices.Repeat([]api.Batch{batch(1, slices.Repeat([]api.Entry{add("INBOX", 0, text(350))}, 4)...)}, 9)
	var mails []api.Mail
	for i := range 16 {
		mails = append(mails, mail(i+1, 0, text(350)))
	}
	mails = append(mails, mail(17, 1, text(400)))
	folds(t, 1, stateOf(boxOf("INBOX", 18, mails...)), append(full, batch(1, add("INBOX", 1, text(401))), batch(1, add("INBOX", 1, text(400))))...)
}

// P10.9: what Check refuses of any batch is refused, ahead of a user that there is not.
func TestFoldWrong(t *testing.T) {
	good := batch(0, add("INBOX", 0, "x"))
	none := append(far, -1, api.MaxUsers)
	for _, n := range none {
		unfolded(t, api.ErrRange, n)
		unfolded(t, api.ErrRange, n, good)
	}
	l := append(wrongBatches(), refusal[api.Batch]{batch(-1, create("a")), api.ErrRange})
	for i, w := range l {
		for user := range api.MaxUsers {
			unfolded(t, w.e, user, w.it)
			unfolded(t, w.e, user, good, w.it, good)
		}
		for _, n := range none {
			unfolded(t, w.e, n, good, w.it)
		}
		other := l[(i+7)%len(l)]
		unfolded(t, w.e, 0, good, w.it, other.it)
		unfolded(t, other.e, 3, other.it, good, w.it)
	}
}

// P10.9: any number of batches are taken, and Uids go up to their bound.
func TestFoldMany(t *testing.T) {
	many := 20000
	one := batch(2, append(slices.Repeat([]api.Entry{add("INBOX", 8, "")}, 9), expunge("INBOX"))...)
	folds(t, 2, stateOf(boxOf("INBOX", 9*many+1)), slices.Repeat([]api.Batch{one}, many)...)
	folds(t, 1, stateOf(boxOf("INBOX", 1)), slices.Repeat([]api.Batch{one}, many)...)
}
