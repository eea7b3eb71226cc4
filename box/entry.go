package box

import (
	"postroom/api"
	"postroom/rule"
	"postroom/who"
)

// allFlags together.
const allFlags = api.Seen | api.Answered | api.Flagged | api.Deleted | api.Draft

// areFlags tells whether a number is flags of a mail.
func areFlags(n int) bool { return 0 <= n && n <= allFlags }

// bare: of an entry just what its kind has.
func bare(x api.Entry) api.Entry {
	y := api.Entry{Kind: x.Kind}
	switch x.Kind {
	case api.Create, api.Expunge:
		y.Box = x.Box
	case api.Append:
		y.Box, y.Flags, y.Text = x.Box, x.Flags, x.Text
	case api.Flag:
		y.Box, y.Uid, y.Flags = x.Box, x.Uid, x.Flags
	case api.Copy:
		y.Box, y.Uid, y.To = x.Box, x.Uid, x.To
	case api.Spool:
		y.To, y.Text = x.To, x.Text
	}
	return y
}

// checkNames: the boxes of an entry, or to whom it goes.
func checkNames(x api.Entry) api.Errno {
	if x.Kind == api.Spool {
		return checkGoal(x.To)
	}
	if e := rule.Name(x.Box); e != api.OK {
		return e
	}
	if x.Kind == api.Copy {
		return rule.Name(x.To)
	}
	return api.OK
}

// checkGoal of a Spool: it is one address. Whatever a list is refused for, the entry is not in form.
func checkGoal(to string) api.Errno {
	if len(to) > api.MaxPattern {
		return api.ErrForm
	}
	if l, e := who.List(to); e != api.OK || len(l) != 1 {
		return api.ErrForm
	}
	return api.OK
}
