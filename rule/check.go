package rule

import (
	"postroom/api"
	"postroom/who"
)

// required by a script: each name, and how often.
type required map[string]int

// requiresAhead of all other commands: how many there are.
func requiresAhead(l []api.Command) int {
	for i, c := range l {
		if c.Kind != api.Require {
			return i
		}
	}
	return len(l)
}

// requiredBy commands, which are all Requires.
func requiredBy(l []api.Command) (required, api.Errno) {
	r := required{}
	for _, c := range l {
		for _, name := range c.Texts {
			if !isRequirable(name) {
				return nil, api.ErrNone
			}
			r[name]++
		}
	}
	return r, api.OK
}

// has tells whether a name is required, or no name is needed.
func (r required) has(name string) bool {
	return name == "" || r[name] > 0
}

// checkCommands behind the Requires, one by one, each with what is in it.
func (r required) checkCommands(l []api.Command) api.Errno {
	for _, c := range l {
		if e := r.checkCommand(c); e != api.OK {
			return e
		}
	}
	return api.OK
}

// checkCommand and what is in it.
func (r required) checkCommand(c api.Command) api.Errno {
	if !r.has(neededFor[c.Kind]) {
		return api.ErrRight
	}
	switch c.Kind {
	case api.Require:
		return api.ErrForm
	case api.FileInto:
		return Name(c.Texts[0])
	case api.SetFlag, api.AddFlag:
		_, e := Flags(c.Texts)
		return e
	case api.Redirect:
		return checkGoal(c.Texts[0])
	case api.If:
		return r.checkIf(c)
	}
	return api.OK
}

// checkGoal of a Redirect. Whatever makes its text no list of just one, its length too, is an error of form here.
func checkGoal(s string) api.Errno {
	l, e := who.List(s)
	if e != api.OK || len(l) != 1 {
		return api.ErrForm
	}
	return api.OK
}

// checkIf: its test comes first.
func (r required) checkIf(c api.Command) api.Errno {
	if e := r.checkTest(c.Test); e != api.OK {
		return e
	}
	if e := r.checkCommands(c.Then); e != api.OK {
		return e
	}
	return r.checkCommands(c.Else)
}

// checkTest, then those in it.
func (r required) checkTest(t api.Test) api.Errno {
	if t.Kind == api.Envelope {
		if e := r.checkEnvelope(t); e != api.OK {
			return e
		}
	}
	if isAnyLong(t.Names) || isAnyLong(t.Keys) {
		return api.ErrSize
	}
	for _, inner := range t.Tests {
		if e := r.checkTest(inner); e != api.OK {
			return e
		}
	}
	return api.OK
}

// checkEnvelope: what is asked of an Envelope alone.
func (r required) checkEnvelope(t api.Test) api.Errno {
	if !r.has(envelopeName) {
		return api.ErrRight
	}
	for _, name := range t.Names {
		if !isEnvelopePart(name) {
			return api.ErrNone
		}
	}
	return api.OK
}

// isAnyLong tells whether one of some texts has more bytes than are compared.
func isAnyLong(l []string) bool {
	for _, s := range l {
		if len(s) > api.MaxPattern {
			return true
		}
	}
	return false
}
