package judge

import (
	"slices"

	"postroom/api"
	"postroom/glob"
	"postroom/who"
)

// fromName: the name of an envelope's From; the only other one is that of its To.
const fromName = "from"

// opened letter: the letter as it came, and the message of its text.
type opened struct {
	api.Letter
	message api.Message
}

// open a letter that may be.
func open(l api.Letter) (opened, api.Errno) {
	m, e := Check(l)
	return opened{l, m}, e
}

// tells: what a test, which is in form, tells of the letter.
func (o opened) tells(t api.Test) bool {
	switch t.Kind {
	case api.True:
		return true
	case api.Not:
		return !o.tells(t.Tests[0])
	case api.AllOf:
		return !slices.ContainsFunc(t.Tests, func(x api.Test) bool { return !o.tells(x) })
	case api.AnyOf:
		return slices.ContainsFunc(t.Tests, func(x api.Test) bool { return o.tells(x) })
	case api.Header:
		return o.hasValue(t.Names, func(v string) bool { return fits(t, v) })
	case api.Addr:
		return o.hasValue(t.Names, func(v string) bool { return anyAddressFits(t, v) })
	case api.Envelope:
		return slices.ContainsFunc(t.Names, func(n string) bool { return addressFits(t, o.party(n)) })
	case api.Exists:
		return !slices.ContainsFunc(t.Names, func(n string) bool { return !o.hasField(n) })
	case api.Size:
		return o.hasSize(t)
	}
	return false
}

// hasValue tells whether something holds of a value of a field that has one of some names. Fields are gone through,
// not names: so each value is looked at just once, however often its field is named. letter.Values is not asked: it
// refuses a message that would be too long if it were shown, but a letter with such a one may be.
func (o opened) hasValue(names []string, holds func(value string) bool) bool {
	return slices.ContainsFunc(o.message.Fields, func(f api.Field) bool {
		named := slices.ContainsFunc(names, func(n string) bool { return isNamed(f, n) })
		return named && holds(f.Value)
	})
}

// hasField tells whether there is a field of a name.
func (o opened) hasField(name string) bool {
	return slices.ContainsFunc(o.message.Fields, func(f api.Field) bool { return isNamed(f, name) })
}

// hasSize tells whether the text is over, or under, a test's limit.
func (o opened) hasSize(t api.Test) bool {
	if t.Over {
		return len(o.Text) > t.Limit
	}
	return len(o.Text) < t.Limit
}

// party of the envelope that has a name.
func (o opened) party(name string) api.Address {
	if name == fromName {
		return o.From
	}
	return o.To
}

// isNamed tells whether a field has a name.
func isNamed(f api.Field, name string) bool {
	same, _ := glob.Match(api.Is, f.Name, name)
	return same
}

// anyAddressFits tells whether one of the addresses in a value fits one of a test's keys.
func anyAddressFits(t api.Test, value string) bool {
	l, _ := who.List(value)
	return slices.ContainsFunc(l, func(a api.Address) bool { return addressFits(t, a) })
}

// addressFits tells whether the part of an address that a test asks for fits one of its keys.
func addressFits(t api.Test, a api.Address) bool {
	part, _ := who.Part(t.Part, a)
	return fits(t, part)
}

// fits tells whether a text fits one of a test's keys.
func fits(t api.Test, s string) bool {
	return slices.ContainsFunc(t.Keys, func(key string) bool {
		ok, _ := glob.Match(t.Match, s, key)
		return ok
	})
}
