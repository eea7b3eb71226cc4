package post

import (
	"slices"

	"postroom/api"
	"postroom/book"
	"postroom/box"
)

// ledger: a tape with batches, and the users' states behind these. States are never changed in place: so a list of them
// is kept by a plain copy, and no batch is ever folded twice.
type ledger struct {
	tape   api.Tape
	synced int         // batches that are synced
	waits  int         // batches behind these, which are not
	safe   []api.State // of each user, behind the batches that are synced
	states []api.State // of each user, behind all batches
}

// newLedger of so many users: none of them has ordered or got anything.
func newLedger(users int) ledger {
	var w ledger
	for user := range users {
		s, _ := book.Fold(nil, user)
		w.states = append(w.states, s)
	}
	w.settle()
	return w
}

// add a batch, behind which its user's state is next. It waits.
func (w *ledger) add(b api.Batch, next api.State) api.Errno {
	if w.waits >= api.MaxWaits {
		return api.ErrFull
	}
	t, e := book.Append(w.tape, b)
	if e != api.OK {
		return e
	}
	w.tape, w.states[b.User] = t, next
	w.waits++
	return api.OK
}

// sync all that waits.
func (w *ledger) sync() {
	w.tape, _ = book.Sync(w.tape)
	w.settle()
}

// settle: all batches are synced now.
func (w *ledger) settle() {
	w.synced, w.waits = w.synced+w.waits, 0
	w.safe = slices.Clone(w.states)
}

// crash: what was synced stays, and of what waited so many bytes, as far as they make whole batches.
func (w *ledger) crash(keep int) {
	t, _ := book.Crash(w.tape, keep)
	l, t, _ := book.Recover(t)
	w.tape = t
	w.again(l[w.synced:])
	w.settle()
}

// again: of the batches that waited just these are left.
func (w *ledger) again(l []api.Batch) {
	w.states, w.waits = slices.Clone(w.safe), len(l)
	for _, b := range l {
		w.states[b.User], _ = box.All(w.states[b.User], b.Entries)
	}
}
