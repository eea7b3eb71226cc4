package script

import "postroom/api"

// checkCommands that are so deep.
func checkCommands(l []api.Command, depth int) api.Errno {
	for _, c := range l {
		if e := checkCommand(c, depth); e != api.OK {
			return e
		}
	}
	return api.OK
}

// checkCommand that is so deep, then what is in it.
func checkCommand(c api.Command, depth int) api.Errno {
	if e := checkOne(isNumberOf(aCommand, c.Kind), depth, commandFits(c)); e != api.OK {
		return e
	}
	if c.Kind != api.If {
		return api.OK
	}
	if e := checkTest(c.Test, 1); e != api.OK {
		return e
	}
	if e := checkCommands(c.Then, depth+1); e != api.OK {
		return e
	}
	if isElsif(c.Else) {
		return checkCommand(c.Else[0], depth)
	}
	return checkCommands(c.Else, depth+1)
}

// checkTest that is so deep, then those in it.
func checkTest(t api.Test, depth int) api.Errno {
	if e := checkOne(isNumberOf(aTest, t.Kind), depth, testFits(t)); e != api.OK {
		return e
	}
	for _, inner := range t.Tests {
		if e := checkTest(inner, depth+1); e != api.OK {
			return e
		}
	}
	return api.OK
}

// checkOne: what is wrong with a command or test itself, whatever is in it.
func checkOne(isKind bool, depth int, fits bool) api.Errno {
	switch {
	case !isKind:
		return api.ErrKind
	case depth > api.MaxNest:
		return api.ErrSize
	case !fits:
		return api.ErrForm
	}
	return api.OK
}

// commandFits tells whether a command has just what its kind has.
func commandFits(c api.Command) bool {
	if c.Kind != api.If && (len(c.Then) > 0 || len(c.Else) > 0 || !isNoTest(c.Test)) {
		return false
	}
	switch c.Kind {
	case api.Require, api.SetFlag, api.AddFlag:
		return len(c.Texts) > 0
	case api.FileInto, api.Redirect, api.Reject:
		return len(c.Texts) == 1
	}
	return len(c.Texts) == 0
}

// testFits tells whether a test has just what its kind has: what it has rightly is taken out, and nothing may be left.
func testFits(t api.Test) bool {
	fits := true
	switch t.Kind {
	case api.Not:
		fits = len(t.Tests) == 1
		t.Tests = nil
	case api.AllOf, api.AnyOf:
		fits = len(t.Tests) > 0
		t.Tests = nil
	case api.Header:
		fits = comparedFits(t)
		t.Match, t.Names, t.Keys = 0, nil, nil
	case api.Addr, api.Envelope:
		fits = comparedFits(t) && isNumberOf(aPart, t.Part)
		t.Match, t.Part, t.Names, t.Keys = 0, 0, nil, nil
	case api.Exists:
		fits = len(t.Names) > 0
		t.Names = nil
	case api.Size:
		fits = 0 <= t.Limit && t.Limit <= api.MaxNumber
		t.Over, t.Limit = false, 0
	}
	t.Kind = 0
	return fits && isNoTest(t)
}

// comparedFits tells whether a test that compares texts has how, which and with what.
func comparedFits(t api.Test) bool {
	return isNumberOf(aMatch, t.Match) && len(t.Names) > 0 && len(t.Keys) > 0
}

// isNoTest tells whether nothing of a test is there.
func isNoTest(t api.Test) bool {
	return t.Kind == 0 && t.Match == 0 && t.Part == 0 && len(t.Names) == 0 && len(t.Keys) == 0 && !t.Over && t.Limit == 0 && len(t.Tests) == 0
}
