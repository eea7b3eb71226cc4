package judge

import (
	"slices"

	"postroom/api"
	"postroom/rule"
	"postroom/who"
)

// What may be required.
const (
	fileIntoName = "fileinto"
	rejectName   = "reject"
	envelopeName = "envelope"
	flagsName    = "imap4flags"
)

// allFlags together.
const allFlags = api.Seen | api.Answered | api.Flagged | api.Deleted | api.Draft

// course that is on its way: the plain one, and whether nothing more is done.
type course struct {
	api.Course
	over bool
}

// requireOf: a Require of some names.
func requireOf(names ...string) api.Command {
	return api.Command{Kind: api.Require, Texts: names}
}

// mayBe tells whether a plain course may be.
func mayBe(c api.Course) bool {
	return len(c.Actions) <= api.MaxActions && 0 <= c.Flags && c.Flags <= allFlags
}

// goOnFrom a plain course, whose actions stay as they are.
func goOnFrom(c api.Course) course {
	c.Actions = slices.Clone(c.Actions)
	return course{c, c.Fault != api.OK}
}

// follow commands of a script that is allowed, as long as the course goes on.
func (c *course) follow(l []api.Command, o opened) {
	for _, x := range l {
		switch {
		case c.over:
			return
		case x.Kind != api.If:
			c.do(x)
		case o.tells(x.Test):
			c.follow(x.Then, o)
		default:
			c.follow(x.Else, o)
		}
	}
}

// do a command that is allowed, and no If, in a course that goes on.
func (c *course) do(x api.Command) {
	switch x.Kind {
	case api.Require:
	case api.Stop:
		c.over = true
	case api.SetFlag:
		c.Flags = flagsOf(x)
	case api.AddFlag:
		c.Flags |= flagsOf(x)
	default:
		c.ask(c.actionOf(x))
	}
}

// flagsOf a command that names them.
func flagsOf(x api.Command) int {
	flags, _ := rule.Flags(x.Texts)
	return flags
}

// actionOf a command: what it asks for now.
func (c *course) actionOf(x api.Command) api.Action {
	a := api.Action{Kind: x.Kind}
	switch x.Kind {
	case api.Keep:
		a.Flags = c.Flags
	case api.FileInto:
		a.Text, a.Flags = x.Texts[0], c.Flags
	case api.Redirect:
		a.Text = goalOf(x.Texts[0])
	case api.Reject:
		a.Text = x.Texts[0]
	}
	return a
}

// goalOf a Redirect: the one address that its list has.
func goalOf(list string) string {
	l, _ := who.List(list)
	goal, _ := who.Part(api.All, l[0])
	return goal
}

// ask for an action. Even if nothing comes of it, something was asked for.
func (c *course) ask(a api.Action) {
	c.Asked = true
	switch {
	case c.has(func(b api.Action) bool { return clash(a.Kind, b.Kind) }):
		c.fail(api.ErrClash)
	case c.has(func(b api.Action) bool { return a.Kind == b.Kind && a.Text == b.Text }):
	case len(c.Actions) >= api.MaxActions:
		c.fail(api.ErrFull)
	default:
		c.Actions = append(c.Actions, a)
	}
}

// has tells whether there is an action of which something holds.
func (c *course) has(holds func(a api.Action) bool) bool {
	return slices.ContainsFunc(c.Actions, holds)
}

// fail: the course is over with a fault.
func (c *course) fail(e api.Errno) {
	c.Fault, c.over = e, true
}

// clash tells whether actions of two kinds may not be done together, be it twice the same one.
func clash(a, b int) bool {
	return a == api.Reject && (b == api.Reject || passesOn(b)) || b == api.Reject && passesOn(a)
}

// passesOn tells whether the letter comes to somebody by an action of a kind.
func passesOn(kind int) bool {
	return kind == api.Keep || kind == api.FileInto || kind == api.Redirect
}
