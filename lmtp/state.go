package lmtp

import (
	"slices"

	"postroom/api"
	"postroom/who"
)

// mayBe tells whether a plain session may be: it has just what its Step has.
func mayBe(s api.Session) bool {
	if s.Step < api.Fresh || s.Step > api.Over {
		return false
	}
	return senderMayBe(s) && goalsMayBe(s) && textMayBe(s)
}

// senderMayBe tells whether a session's From fits its Step.
func senderMayBe(s api.Session) bool {
	if s.Step < api.Sender || s.Step > api.Body {
		return s.From == api.Address{}
	}
	return who.Check(s.From) == api.OK
}

// goalsMayBe tells whether a session's To fits its Step.
func goalsMayBe(s api.Session) bool {
	if s.Step < api.Rcpt || s.Step > api.Body {
		return len(s.To) == 0
	}
	// Their number comes first: a longer list is not gone through.
	if len(s.To) < 1 || len(s.To) > api.MaxRcpts {
		return false
	}
	for i, a := range s.To {
		if who.Check(a) != api.OK || slices.Contains(s.To[:i], a) {
			return false
		}
	}
	return true
}

// textMayBe tells whether a session's Text fits its Step.
func textMayBe(s api.Session) bool {
	if s.Step != api.Body {
		return s.Text == "" && !s.Large
	}
	return len(s.Text) <= api.MaxText
}
