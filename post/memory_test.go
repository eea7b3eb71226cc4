package post_test

import (
	"slices"
	"testing"

	"postroom/api"
	"postroom/post"
)

// roomy: a copy of a list, with something in its spare room.
func roomy[E any](spare E, l ...E) []E {
	return append(append(make([]E, 0, len(l)+20), l...), slices.Repeat([]E{spare}, 20)...)[:len(l)]
}

// overwrite a list, its spare room too.
func overwrite[E any](with E, l []E) {
	for i := range l[:cap(l)] {
		l[:cap(l)][i] = with
	}
}

// overwriteLists of an outcome, the innermost ones first; each is called behind each of them.
func overwriteLists(o api.Outcome, each func()) {
	for _, l := range o.Codes {
		overwrite(-1, l)
		each()
	}
	for _, l := range o.Orders {
		overwrite(api.Errno(-1), l)
		each()
	}
	for _, s := range o.States {
		for _, b := range s.Boxes {
			overwrite(api.Mail{Text: "over"}, b.Mails)
			each()
		}
		overwrite(api.Box{Name: "over"}, s.Boxes)
		each()
		overwrite(api.Entry{Text: "over"}, s.Spool)
		each()
	}
	overwrite([]int{-1}, o.Codes)
	overwrite([]api.Errno{-1}, o.Orders)
	overwrite(api.State{}, o.States)
	each()
}

// scripts that leave something in each list of an outcome.
func fullScripts() [][]api.Act {
	l := []api.Act{order(0, create("a")), letter(0, "s: t", "ann", "bob", "cid"), feed(1, "NOOP"), feed(2, "x"), order(1, api.Entry{}), order(2, written("x")), sync, letter(0, "s: u", "ann", "bob", "cid"), order(2, create("a"))}
	return [][]api.Act{nil, l[:3], l[:7], l, append(slices.Clone(l), sync), append(slices.Clone(l), crash(100)), append(slices.Clone(l), crash(0), start, sync)}
}

// What is handed in stays as it is, its spare room too, and what is answered is new memory, with no two lists in one place.
func TestSharesNothing(t *testing.T) {
	users := []api.User{scripted("ann", `keep; redirect "a@b";`), scripted("bob", `keep; redirect "a@b";`), scripted("cid", "")}
	for _, acts := range append(fullScripts(), []api.Act{{Kind: 9}}) {
		us, l := roomy(api.User{Local: "spare"}, users...), roomy(api.Act{Data: "spare"}, acts...)
		wholeUsers, wholeActs := slices.Clone(us[:cap(us)]), slices.Clone(l[:cap(l)])
		asHandedIn := func() bool {
			return slices.Equal(us[:cap(us)], wholeUsers) && slices.Equal(l[:cap(l)], wholeActs)
		}
		first, e := post.Run(us, l)
		second, f := post.Run(us, l)
		want := text(second)
		if text(first) != want || e != f || !asHandedIn() {
			t.Fatalf("Run(%s) changes what it is handed, or answers otherwise the second time", short(acts))
		}
		overwriteLists(first, func() {
			if !asHandedIn() || text(second) != want {
				t.Errorf("Run(%s) answers memory that it was handed, or answered", short(acts))
			}
		})
		overwrite(api.User{}, us)
		overwrite(api.Act{}, l)
		if text(second) != want {
			t.Errorf("Run(%s) keeps what it was handed", short(acts))
		}
		apart(t, second)
	}
}

// apart: each list of an outcome is written over alone: no other one changes.
func apart(t *testing.T, o api.Outcome) {
	t.Helper()
	var lists []func()
	var tellings []func() string
	add := func(write func(), told func() string) {
		lists, tellings = append(lists, write), append(tellings, told)
	}
	for _, l := range o.Codes {
		add(func() { overwrite(-1, l) }, func() string { return text(l[:cap(l)]) })
	}
	for _, l := range o.Orders {
		add(func() { overwrite(api.Errno(-1), l) }, func() string { return text(l[:cap(l)]) })
	}
	for _, s := range o.States {
		for _, b := range s.Boxes {
			add(func() { overwrite(api.Mail{Text: "over"}, b.Mails) }, func() string { return text(b.Mails[:cap(b.Mails)]) })
		}
		add(func() { overwrite(api.Entry{Text: "over"}, s.Spool) }, func() string { return text(s.Spool[:cap(s.Spool)]) })
	}
	for i, write := range lists {
		var before []string
		for _, told := range tellings {
			before = append(before, told())
		}
		write()
		for j, told := range tellings {
			if i != j && told() != before[j] {
				t.Fatalf("lists %d and %d of an outcome share memory: %s", i, j, short(o))
			}
		}
	}
}
