package post

import (
	"slices"

	"postroom/api"
	"postroom/deliver"
)

// Codes of letters.
const (
	taken    = 250
	noRoom   = 452
	tooLarge = 552
	failed   = 554
)

// take letters that were handed over: a code for each of them, and whether one of them waits.
func (r *room) take(l []api.Letter, large bool) ([]int, bool) {
	var codes []int
	wait := false
	for _, x := range l {
		code, waits := tooLarge, false
		if !large {
			code, waits = r.deliver(x)
		}
		codes, wait = append(codes, code), wait || waits
	}
	return codes, wait
}

// deliver a letter to its user: its code, and whether it waits.
func (r *room) deliver(x api.Letter) (int, bool) {
	// A session takes just letters to users that are known: so there is one.
	user := slices.Index(r.locals, x.To.Local)
	entries, next, e := deliver.Deliver(r.ledger.states[user], x, r.scripts[user])
	switch {
	case e == api.ErrFull:
		return noRoom, false
	case e != api.OK:
		return failed, false
	case len(entries) == 0:
		return taken, false
	case r.ledger.add(api.Batch{User: user, Entries: entries}, next) != api.OK:
		return noRoom, false
	}
	return taken, true
}
