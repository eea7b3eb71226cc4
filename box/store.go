package box

import (
	"slices"

	"postroom/api"
)

// store: a state in memory of its own, so that entries may change it in place.
type store api.State

// storeOf a state that may be.
func storeOf(s api.State) store {
	w := store{Boxes: slices.Clone(s.Boxes), Spool: slices.Clone(s.Spool)}
	for i := range w.Boxes {
		w.Boxes[i].Mails = slices.Clone(w.Boxes[i].Mails)
	}
	return w
}

// do an entry that has its form. One that is refused changes nothing.
func (w *store) do(x api.Entry) api.Errno {
	switch x.Kind {
	case api.Create:
		return w.create(x.Box)
	case api.Spool:
		return w.spool(x)
	}
	i := indexOfBox(w.Boxes, x.Box)
	if i < 0 {
		return api.ErrNone
	}
	b := &w.Boxes[i]
	switch x.Kind {
	case api.Append:
		return w.add(b, x.Flags, x.Text)
	case api.Expunge:
		b.Mails = slices.DeleteFunc(b.Mails, func(m api.Mail) bool { return m.Flags&api.Deleted != 0 })
		return api.OK
	}
	j := indexOfMail(b.Mails, x.Uid)
	if j < 0 {
		return api.ErrNone
	}
	if x.Kind == api.Copy {
		return w.copyTo(x.To, b.Mails[j])
	}
	b.Mails[j].Flags = x.Flags
	return api.OK
}

// create an empty box.
func (w *store) create(name string) api.Errno {
	switch {
	case indexOfBox(w.Boxes, name) >= 0:
		return api.ErrTwice
	case len(w.Boxes) >= api.MaxBoxes:
		return api.ErrFull
	}
	w.Boxes = append(w.Boxes, api.Box{Name: name, Next: 1})
	return api.OK
}

// spool an entry: it waits to go out.
func (w *store) spool(x api.Entry) api.Errno {
	if len(w.Spool) >= api.MaxSpool {
		return api.ErrFull
	}
	w.Spool = append(w.Spool, x)
	return api.OK
}

// copyTo a box what a mail is but for its Uid.
func (w *store) copyTo(name string, m api.Mail) api.Errno {
	i := indexOfBox(w.Boxes, name)
	if i < 0 {
		return api.ErrNone
	}
	return w.add(&w.Boxes[i], m.Flags, m.Text)
}

// add a mail to a box, which is one of the store's.
func (w *store) add(b *api.Box, flags int, text string) api.Errno {
	if len(b.Mails) >= api.MaxMails || b.Next > api.MaxUid || sizeOf(w.Boxes)+len(text) > api.Quota {
		return api.ErrFull
	}
	b.Mails = append(b.Mails, api.Mail{Uid: b.Next, Flags: flags, Text: text})
	b.Next++
	return api.OK
}
