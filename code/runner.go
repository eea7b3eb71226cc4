package code

import (
	"postroom/api"
	"postroom/judge"
)

// runner of ops that may be, for a letter that may be.
type runner struct {
	ops    []api.Op
	letter api.Letter
	course api.Course
	at     int  // the place of the next op
	done   int  // how many were done
	told   bool // what was told last
}

// step: the next op is done. Neither Ask nor Do refuses anything here: Check has asked for no less than they do.
func (r *runner) step() {
	o := r.ops[r.at]
	r.at++
	r.done++
	switch o.Kind {
	case api.Ask:
		r.told, _ = judge.Ask(o.Test, r.letter)
	case api.Flip:
		r.told = !r.told
	case api.JumpTrue:
		r.goIf(r.told, o.To)
	case api.JumpFalse:
		r.goIf(!r.told, o.To)
	case api.Jump:
		r.goIf(true, o.To)
	case api.Do:
		next, goesOn, _ := judge.Do(r.course, o.What)
		r.course = next
		r.goIf(!goesOn, len(r.ops))
	}
}

// goIf it is asked for: to a place.
func (r *runner) goIf(asked bool, to int) {
	if asked {
		r.at = to
	}
}
