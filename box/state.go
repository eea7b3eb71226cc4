package box

import (
	"slices"

	"postroom/api"
	"postroom/rule"
)

// mayBe tells whether a state may be. Numbers of things are looked at ahead of the things: so a state that is far too
// large is not gone through.
func mayBe(s api.State) bool {
	if len(s.Boxes) > api.MaxBoxes || len(s.Spool) > api.MaxSpool {
		return false
	}
	for i, b := range s.Boxes {
		if !boxMayBe(b) || indexOfBox(s.Boxes[:i], b.Name) >= 0 {
			return false
		}
	}
	return sizeOf(s.Boxes) <= api.Quota && !slices.ContainsFunc(s.Spool, func(x api.Entry) bool {
		return x.Kind != api.Spool || Form(x) != api.OK
	})
}

// boxMayBe tells whether a box may be, beside others or alone.
func boxMayBe(b api.Box) bool {
	if rule.Name(b.Name) != api.OK || b.Next < 1 || b.Next > api.MaxUid+1 || len(b.Mails) > api.MaxMails {
		return false
	}
	last := 0
	for _, m := range b.Mails {
		if m.Uid <= last || m.Uid >= b.Next || !areFlags(m.Flags) || len(m.Text) > api.MaxText {
			return false
		}
		last = m.Uid
	}
	return true
}

// sizeOf boxes: the bytes of all their mails.
func sizeOf(l []api.Box) int {
	n := 0
	for _, b := range l {
		for _, m := range b.Mails {
			n += len(m.Text)
		}
	}
	return n
}

// indexOfBox of a name; below 0: there is none.
func indexOfBox(l []api.Box, name string) int {
	return slices.IndexFunc(l, func(b api.Box) bool { return b.Name == name })
}

// indexOfMail with a Uid; below 0: there is none.
func indexOfMail(l []api.Mail, uid int) int {
	return slices.IndexFunc(l, func(m api.Mail) bool { return m.Uid == uid })
}
