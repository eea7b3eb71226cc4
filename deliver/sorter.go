package deliver

import (
	"slices"

	"postroom/api"
	"postroom/who"
)

// inbox: where a letter comes that is kept, or whose box is not there.
const inbox = "INBOX"

// sorter of a letter that may be: the entries of its actions so far.
type sorter struct {
	letter  api.Letter
	boxes   []api.Box
	entries []api.Entry
}

// do an action.
func (w *sorter) do(a api.Action) {
	switch a.Kind {
	case api.Keep:
		w.file(inbox, a.Flags)
	case api.FileInto:
		w.file(w.boxFor(a.Text), a.Flags)
	case api.Redirect:
		w.spool(a.Text, w.letter.Text)
	case api.Reject:
		w.spool(w.sender(), a.Text)
	}
}

// file the letter into a box. It comes there just once: several names may stand for one box, if it is the inbox.
func (w *sorter) file(name string, flags int) {
	if w.has(func(x api.Entry) bool { return x.Kind == api.Append && x.Box == name }) {
		return
	}
	w.entries = append(w.entries, api.Entry{Kind: api.Append, Box: name, Flags: flags, Text: w.letter.Text})
}

// spool a text: it goes out to somebody.
func (w *sorter) spool(to, text string) {
	w.entries = append(w.entries, api.Entry{Kind: api.Spool, To: to, Text: text})
}

// has tells whether there is an entry of which something holds.
func (w *sorter) has(holds func(x api.Entry) bool) bool {
	return slices.ContainsFunc(w.entries, holds)
}

// boxFor what is to be filed under a name.
func (w *sorter) boxFor(name string) string {
	if slices.ContainsFunc(w.boxes, func(b api.Box) bool { return b.Name == name }) {
		return name
	}
	return inbox
}

// sender of the letter, as a text.
func (w *sorter) sender() string {
	all, _ := who.Part(api.All, w.letter.From)
	return all
}
