package deliver_test

import (
	"reflect"
	"slices"
	"testing"

	"postroom/api"
	"postroom/deliver"
)

// roomy: a copy of a list, with something in its spare room.
func roomy[E any](spare E, l ...E) []E {
	return append(append(make([]E, 0, len(l)+20), l...), slices.Repeat([]E{spare}, 20)...)[:len(l)]
}

// overwrite a list, its spare room too.
func overwrite[E any](with E, l []E) {
	for i := range l[:cap(l)] {
		l[:cap(l)][i] = with
	}
}

// roomyState with spare room in all its lists.
func roomyState(s api.State) api.State {
	boxes := slices.Clone(s.Boxes)
	for i, b := range boxes {
		boxes[i].Mails = roomy(mail(77, 77, "spare"), b.Mails...)
	}
	return api.State{Boxes: roomy(boxOf("spare", 77), boxes...), Spool: roomy(add("spare", 77, ""), s.Spool...)}
}

// wholeState: all that is in its lists, their spare room too.
func wholeState(s api.State) api.State {
	out := api.State{Boxes: slices.Clone(s.Boxes[:cap(s.Boxes)]), Spool: slices.Clone(s.Spool[:cap(s.Spool)])}
	for i, b := range out.Boxes {
		out.Boxes[i].Mails = slices.Clone(b.Mails[:cap(b.Mails)])
	}
	return out
}

// copyState, as it is told.
func copyState(s api.State) api.State {
	out := api.State{Boxes: slices.Clone(s.Boxes), Spool: slices.Clone(s.Spool)}
	for i, b := range out.Boxes {
		out.Boxes[i].Mails = slices.Clone(b.Mails)
	}
	return out
}

// overwriteState: all that is in its lists, their spare room too.
func overwriteState(s api.State) {
	for _, b := range s.Boxes[:cap(s.Boxes)] {
		overwrite(mail(99, 99, "overwritten"), b.Mails)
	}
	overwrite(boxOf("overwritten", 99), s.Boxes)
	overwrite(add("overwritten", 99, ""), s.Spool)
}

// roomyScript with spare room in all its lists.
func roomyScript(l []api.Command) []api.Command {
	l = roomy(api.Command{Kind: 77}, l...)
	for i, c := range l {
		l[i].Texts, l[i].Then, l[i].Else = roomy("spare", c.Texts...), roomyScript(c.Then), roomyScript(c.Else)
		l[i].Test.Names, l[i].Test.Keys = roomy("spare", c.Test.Names...), roomy("spare", c.Test.Keys...)
	}
	return l
}

// wholeScript: all that is in its lists, their spare room too.
func wholeScript(l []api.Command) []api.Command {
	l = slices.Clone(l[:cap(l)])
	for i, c := range l {
		l[i].Texts, l[i].Then, l[i].Else = slices.Clone(c.Texts[:cap(c.Texts)]), wholeScript(c.Then), wholeScript(c.Else)
		l[i].Test.Names, l[i].Test.Keys = slices.Clone(c.Test.Names[:cap(c.Test.Names)]), slices.Clone(c.Test.Keys[:cap(c.Test.Keys)])
	}
	return l
}

// overwriteScript: all that is in its lists, their spare room too.
func overwriteScript(l []api.Command) {
	for _, c := range l[:cap(l)] {
		overwrite("overwritten", c.Texts)
		overwrite("overwritten", c.Test.Names)
		overwrite("overwritten", c.Test.Keys)
		overwriteScript(c.Then)
		overwriteScript(c.Else)
	}
	overwrite(api.Command{Kind: 99}, l)
}

// busy state, with something of everything.
func busy() api.State {
	return api.State{
		Boxes: []api.Box{boxOf("INBOX", 9, mail(2, 8, "x"), mail(3, 0, "y"), mail(5, 9, "z")), boxOf("work", 1), boxOf("home", 5, mails(4, 3)...)},
		Spool: []api.Entry{spool("a@b", "x"), spool("c@d", "y")},
	}
}

// scripts of which each does something else, or nothing.
var scripts = []string{
	``, `keep;`, `discard;`, `fileinto "work";`, `fileinto "home"; redirect "a@b";`, `fileinto "none"; keep;`, `reject "no";`, `keep; reject "no";`,
	`redirect "a@b"; redirect "c@d"; redirect "e@f"; redirect "g@h"; keep; fileinto "work";`,
	`setflag ["\\Seen", "\\Draft"]; if header ["to", "subject"] ["work", "other"] { fileinto "work"; stop; } else { discard; }`,
}

// What is handed in stays as it is, its spare room too, and what is answered is new memory, be it refused or not.
func TestSharesNothing(t *testing.T) {
	for _, script := range scripts {
		for _, l := range []api.Letter{letterOf(words), letterOf(text(api.MaxText)), {}} {
			s, cs := roomyState(busy()), roomyScript(read(t, script))
			keptState, keptScript := wholeState(s), wholeScript(cs)
			asHandedIn := func() bool {
				return reflect.DeepEqual(wholeState(s), keptState) && reflect.DeepEqual(wholeScript(cs), keptScript)
			}
			first, firstState, e := deliver.Deliver(s, l, cs)
			second, secondState, f := deliver.Deliver(s, l, cs)
			if e != f || !asHandedIn() {
				t.Fatalf("Deliver by %s changes what it is handed: %v, %v", script, e, f)
			}
			want, wantState := slices.Clone(second), copyState(secondState)
			overwrite(add("overwritten", 99, ""), first)
			overwriteState(firstState)
			if !asHandedIn() {
				t.Errorf("Deliver by %s answers memory that it was handed", script)
			}
			overwriteState(s)
			overwriteScript(cs)
			if !slices.Equal(second, want) || !sameState(secondState, wantState) {
				t.Errorf("Deliver by %s: an answer shares memory with another, or with what was handed in", script)
			}
		}
	}
}

// No two lists of one answer share memory, even if those that were handed in do.
func TestListsShareNothing(t *testing.T) {
	shared := roomy(mail(77, 77, "spare"), mails(3, 2)...)
	s := api.State{Boxes: []api.Box{boxOf("INBOX", 9), boxOf("work", 9), boxOf("home", 9)}, Spool: []api.Entry{spool("a@b", "x")}}
	s.Boxes[0].Mails, s.Boxes[1].Mails, s.Boxes[2].Mails = shared, shared[:2], shared[1:]
	for _, script := range scripts {
		cs := read(t, script)
		got, next, e := deliver.Deliver(s, letterOf(words), cs)
		want, wantState := slices.Clone(got), copyState(next)
		if e != api.OK {
			t.Fatalf("Deliver by %s = %v", script, e)
		}
		overwrite(add("overwritten", 99, ""), got)
		if !sameState(next, wantState) {
			t.Errorf("Deliver by %s: entries share memory with the state", script)
		}
		got, next, _ = deliver.Deliver(s, letterOf(words), cs)
		for i := range next.Boxes {
			overwrite(mail(99, 99, "overwritten"), next.Boxes[i].Mails)
			next.Boxes[i].Mails = wantState.Boxes[i].Mails
			if !sameState(next, wantState) {
				t.Errorf("Deliver by %s: the mails of box %d share memory", script, i)
			}
		}
		overwrite(add("overwritten", 99, ""), next.Spool)
		if !slices.Equal(got, want) {
			t.Errorf("Deliver by %s: the Spool shares memory with the entries", script)
		}
	}
}
