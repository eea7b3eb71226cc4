package box_test

import (
	"reflect"
	"slices"
	"testing"

	"postroom/api"
	"postroom/box"
)

// roomy: a copy of a list, with something in its spare room.
func roomy[E any](spare E, l ...E) []E {
	return append(append(make([]E, 0, len(l)+2), l...), spare, spare)[:len(l)]
}

// roomyState with spare room in all its lists.
func roomyState(s api.State) api.State {
	boxes := slices.Clone(s.Boxes)
	for i, b := range boxes {
		boxes[i].Mails = roomy(mail(77, 77, "spare"), b.Mails...)
	}
	return api.State{Boxes: roomy(boxOf("spare", 77), boxes...), Spool: roomy(create("spare"), s.Spool...)}
}

// wholeState: all that is in its lists, their spare room too.
func wholeState(s api.State) api.State {
	out := api.State{Boxes: slices.Clone(s.Boxes[:cap(s.Boxes)]), Spool: slices.Clone(s.Spool[:cap(s.Spool)])}
	for i, b := range out.Boxes {
		out.Boxes[i].Mails = slices.Clone(b.Mails[:cap(b.Mails)])
	}
	return out
}

// copyOf a state, as it is told.
func copyOf(s api.State) api.State {
	out := api.State{Boxes: slices.Clone(s.Boxes), Spool: slices.Clone(s.Spool)}
	for i, b := range out.Boxes {
		out.Boxes[i].Mails = slices.Clone(b.Mails)
	}
	return out
}

// overwrite a list, its spare room too.
func overwrite[E any](with E, l []E) {
	for i := range l[:cap(l)] {
		l[:cap(l)][i] = with
	}
}

// overwriteState: all that is in its lists, their spare room too.
func overwriteState(s api.State) {
	for _, b := range s.Boxes[:cap(s.Boxes)] {
		overwrite(mail(99, 99, "overwritten"), b.Mails)
	}
	overwrite(boxOf("overwritten", 99), s.Boxes)
	overwrite(create("overwritten"), s.Spool)
}

// busy state, with something of everything.
func busy() api.State {
	return api.State{
		Boxes: []api.Box{boxOf("a", 9, mail(2, 8, "x"), mail(3, 0, "y"), mail(5, 9, "z")), boxOf("b", 1), boxOf("c", 5, mails(4, 3)...)},
		Spool: []api.Entry{spool("a@b", "x"), spool("c@d", "y")},
	}
}

// batches of which each changes something else, or nothing.
func batches() [][]api.Entry {
	return [][]api.Entry{
		nil, {}, {create("d")}, {add("a", 1, "n")}, {add("b", 1, "n")}, {flag("a", 3, 31)}, {expunge("a")}, {expunge("b")}, {copied("a", 2, "c")}, {copied("c", 4, "c")}, {copied("a", 5, "b")}, {spool("e@f", "n")},
		{create("d"), create("e"), add("d", 0, "m"), add("e", 0, "m"), copied("d", 1, "e"), expunge("a"), flag("c", 2, 8), expunge("c"), spool("e@f", "n"), spool("g@h", "n")},
		{add("a", 0, "n"), expunge("a"), {}}, // this one is refused at its end
	}
}

// What is handed in stays as it is, its spare room too, and what is answered is new memory.
func TestSharesNothing(t *testing.T) {
	for _, l := range batches() {
		s := roomyState(busy())
		l = roomy(create("spare"), l...)
		kept, keptList := wholeState(s), slices.Clone(l[:cap(l)])
		asHandedIn := func() bool {
			return reflect.DeepEqual(wholeState(s), kept) && slices.Equal(l[:cap(l)], keptList)
		}
		box.Check(s)
		box.Size(s)
		first, e := box.All(s, l)
		second, f := box.All(s, l)
		if e != f || !asHandedIn() {
			t.Fatalf("All(%v) changes what it is handed: %v, %v", l, e, f)
		}
		want := copyOf(second)
		overwriteState(first)
		if !asHandedIn() {
			t.Errorf("All(%v) answers memory that it was handed", l)
		}
		overwriteState(s)
		overwrite(create("overwritten"), l)
		if !sameState(second, want) {
			t.Errorf("All(%v): an answer shares memory with another, or with what was handed in: %v", keptList, second)
		}
	}
}

// So it is with Apply.
func TestApplySharesNothing(t *testing.T) {
	for _, l := range batches() {
		if len(l) != 1 {
			continue
		}
		s := roomyState(busy())
		kept := wholeState(s)
		first, e := box.Apply(s, l[0])
		second, f := box.Apply(s, l[0])
		want := copyOf(second)
		overwriteState(first)
		if e != api.OK || f != api.OK || !reflect.DeepEqual(wholeState(s), kept) {
			t.Errorf("Apply(%v) changes what it is handed: %v, %v", l[0], e, f)
		}
		overwriteState(s)
		if !sameState(second, want) {
			t.Errorf("Apply(%v): an answer shares memory: %v", l[0], second)
		}
	}
}

// No two lists of one answer share memory, even if those that were handed in do.
func TestListsShareNothing(t *testing.T) {
	shared := roomy(mail(77, 77, "spare"), mails(3, 2)...)
	for _, l := range batches() {
		s := api.State{Boxes: []api.Box{boxOf("a", 9, shared...), boxOf("b", 9, shared...), boxOf("c", 9, shared...)}}
		s.Boxes[0].Mails, s.Boxes[1].Mails, s.Boxes[2].Mails = shared, shared[:2], shared[1:]
		l = slices.DeleteFunc(slices.Clone(l), func(x api.Entry) bool { return box.Form(x) != api.OK || x.Uid > 3 })
		got, e := box.All(s, l)
		if e != api.OK {
			continue
		}
		for i := range got.Boxes {
			want := copyOf(got)
			overwrite(mail(99, 99, "overwritten"), got.Boxes[i].Mails)
			got.Boxes[i].Mails = want.Boxes[i].Mails
			if !sameState(got, want) || !slices.Equal(shared[:cap(shared)], append(mails(3, 2), mail(77, 77, "spare"), mail(77, 77, "spare"))) {
				t.Fatalf("behind %v lists share memory: %v", l, got)
			}
		}
	}
}
