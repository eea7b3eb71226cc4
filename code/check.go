package code

import (
	"postroom/api"
	"postroom/rule"
)

// checkOp that stands at a place, one of so many.
func checkOp(o api.Op, at, many int) api.Errno {
	switch {
	case o.Kind < api.Ask || o.Kind > api.Do:
		return api.ErrKind
	case isJump(o.Kind) && (o.To <= at || o.To > many):
		return api.ErrRange
	case !fits(o):
		return api.ErrForm
	case o.Kind == api.Ask:
		return checkAllowed(api.Command{Kind: api.If, Test: o.Test})
	case o.Kind == api.Do:
		return checkAllowed(o.What)
	}
	return api.OK
}

// checkAllowed: what is wrong with a command, if all that it may need is required.
func checkAllowed(c api.Command) api.Errno {
	all := api.Command{Kind: api.Require, Texts: []string{"fileinto", "reject", "envelope", "imap4flags"}}
	return rule.Check([]api.Command{all, c})
}

// fits tells whether an op has nothing that its kind has not, and asks for no test, and does no command, that is to be
// cut into ops itself.
func fits(o api.Op) bool {
	switch {
	case !isJump(o.Kind) && o.To != 0:
		return false
	case o.Kind != api.Ask && !isNoTest(o.Test):
		return false
	case o.Kind != api.Do && !isNoCommand(o.What):
		return false
	}
	return !hasTests(o.Test.Kind) && o.What.Kind != api.If
}

// isJump tells whether ops of a kind go to a place.
func isJump(kind int) bool {
	return kind == api.JumpTrue || kind == api.JumpFalse || kind == api.Jump
}

// hasTests tells whether tests of a kind have others in them.
func hasTests(kind int) bool {
	return kind == api.Not || kind == api.AllOf || kind == api.AnyOf
}

// isNoTest tells whether nothing of a test is there.
func isNoTest(t api.Test) bool {
	return t.Kind == 0 && t.Match == 0 && t.Part == 0 && len(t.Names) == 0 && len(t.Keys) == 0 && !t.Over && t.Limit == 0 && len(t.Tests) == 0
}

// isNoCommand tells whether nothing of a command is there.
func isNoCommand(c api.Command) bool {
	return c.Kind == 0 && len(c.Texts) == 0 && isNoTest(c.Test) && len(c.Then) == 0 && len(c.Else) == 0
}
