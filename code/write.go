package code

import (
	"slices"

	"postroom/api"
)

// writer of ops.
type writer struct {
	l []api.Op
}

// opsOf commands that are allowed.
func opsOf(l []api.Command) []api.Op {
	var w writer
	w.commands(l)
	return w.l
}

// commands, one behind the other.
func (w *writer) commands(l []api.Command) {
	for _, c := range l {
		if c.Kind == api.If {
			w.branches(c)
			continue
		}
		w.add(api.Op{Kind: api.Do, What: api.Command{Kind: c.Kind, Texts: slices.Clone(c.Texts)}})
	}
}

// branches of an If.
func (w *writer) branches(c api.Command) {
	w.test(c.Test)
	pastThen := w.add(api.Op{Kind: api.JumpFalse})
	w.commands(c.Then)
	if len(c.Else) == 0 {
		w.sendHere(pastThen)
		return
	}
	pastElse := w.add(api.Op{Kind: api.Jump})
	w.sendHere(pastThen)
	w.commands(c.Else)
	w.sendHere(pastElse)
}

// test, and those in it.
func (w *writer) test(t api.Test) {
	switch t.Kind {
	case api.Not:
		w.test(t.Tests[0])
		w.add(api.Op{Kind: api.Flip})
	case api.AllOf:
		w.tests(t.Tests, api.JumpFalse)
	case api.AnyOf:
		w.tests(t.Tests, api.JumpTrue)
	default:
		w.add(api.Op{Kind: api.Ask, Test: copyOf(t)})
	}
}

// tests, one behind the other; by jumps of a kind between them those behind one that settles it are left out.
func (w *writer) tests(l []api.Test, kind int) {
	var pastAll []int
	for i, t := range l {
		if i > 0 {
			pastAll = append(pastAll, w.add(api.Op{Kind: kind}))
		}
		w.test(t)
	}
	w.sendHere(pastAll...)
}

// add an op: its place.
func (w *writer) add(o api.Op) int {
	w.l = append(w.l, o)
	return len(w.l) - 1
}

// sendHere the jumps at these places: to where the next op will stand, if there is one.
func (w *writer) sendHere(jumps ...int) {
	for _, at := range jumps {
		w.l[at].To = len(w.l)
	}
}

// copyOf a test that has no others in it. Its empty list of them is not taken over: that may have spare room.
func copyOf(t api.Test) api.Test {
	t.Names, t.Keys, t.Tests = slices.Clone(t.Names), slices.Clone(t.Keys), nil
	return t
}
