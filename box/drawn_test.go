package box_test

import (
	"math/rand/v2"
	"testing"

	"postroom/api"
	"postroom/box"
	"postroom/rule"
	"postroom/who"
)

// drawer of states and entries: from few names and numbers, so that boxes and mails are found, and are full.
type drawer struct{ *rand.Rand }

// one of some.
func one[E any](d drawer, l ...E) E { return l[d.IntN(len(l))] }

// rare: seldom the second, else the first.
func rare[E any](d drawer, a, b E) E { return pick(d.IntN(60) > 0, a, b) }

// name of a box.
func (d drawer) name() string { return one(d, "a", "b", "c", "d", "e", "f", "a", "b") }

// text of a mail: small, or large.
func (d drawer) text() string {
	return text(rare(d, one(d, 0, 1, 2, d.IntN(100), d.IntN(100), d.IntN(api.MaxText+1)), api.MaxText+1))
}

// flags of a mail.
func (d drawer) flags() int { return rare(d, d.IntN(32), one(d, -1, 32)) }

// goal of a Spool.
func (d drawer) goal() string { return rare(d, one(d, "a@b", "Ann <a@b>"), one(d, "a", "", "a@b,c@d")) }

// entry that mostly has its form.
func (d drawer) entry() api.Entry {
	var x api.Entry
	switch one(d, api.Create, api.Append, api.Append, api.Append, api.Append, api.Flag, api.Flag, api.Expunge, api.Copy, api.Copy, api.Spool) {
	case api.Create:
		x = create(rare(d, d.name(), ""))
	case api.Append:
		x = add(d.name(), d.flags(), d.text())
	case api.Flag:
		x = flag(d.name(), d.uid(), d.flags())
	case api.Expunge:
		x = expunge(rare(d, d.name(), " "))
	case api.Copy:
		x = copied(d.name(), d.uid(), rare(d, d.name(), " "))
	case api.Spool:
		x = spool(d.goal(), d.text())
	}
	x.Kind = rare(d, x.Kind, d.IntN(8))
	x.Uid = rare(d, x.Uid, d.uid())
	x.To = rare(d, x.To, d.name())
	return x
}

// uid of an entry.
func (d drawer) uid() int { return rare(d, d.IntN(12), one(d, -1, api.MaxUid, api.MaxUid+1)) }

// state, which often may be: boxes with few or with many mails.
func (d drawer) state() api.State {
	var s api.State
	for i := range one(d, 0, 1, 3, 4, 5, 5) {
		b := boxOf(rare(d, string([]byte{'a' + byte(i)}), one(d, "a", "")), 1)
		many, size := one(d, 0, 3, 8, 29, 30), one(d, 1, 40, 60, 150)
		for range rare(d, many, 31) {
			b.Mails = append(b.Mails, mail(b.Next, d.IntN(32), text(d.IntN(size))))
			b.Next += one(d, 1, 1, 1, 2)
		}
		b.Next = rare(d, b.Next, one(d, 0, 1, api.MaxUid, api.MaxUid+1, api.MaxUid+1, api.MaxUid+2))
		s.Boxes = append(s.Boxes, b)
	}
	for range rare(d, one(d, 0, 1, 19, 20), 21) {
		s.Spool = append(s.Spool, spool("a@b", text(d.IntN(4))))
	}
	switch {
	case d.IntN(30) == 0 && len(s.Spool) > 0:
		s.Spool[d.IntN(len(s.Spool))] = d.entry()
	case d.IntN(30) == 0 && len(s.Boxes) > 0 && len(s.Boxes[0].Mails) > 0:
		l := s.Boxes[0].Mails
		l[d.IntN(len(l))] = mail(d.uid(), d.flags(), d.text())
	}
	return s
}

// formOf an entry, by the chapter's words.
func formOf(x api.Entry) api.Errno {
	if x.Kind < 1 || x.Kind > 6 {
		return api.ErrKind
	}
	own := has(x.Kind)
	l, e := who.List(x.To)
	switch {
	case x.Box != "" && !own[0], x.Uid != 0 && !own[1], x.Flags != 0 && !own[2], x.To != "" && !own[3], x.Text != "" && !own[4]:
		return api.ErrForm
	case x.Flags < 0, x.Flags > 31, x.Uid < 0, x.Uid > api.MaxUid:
		return api.ErrRange
	case len(x.Text) > api.MaxText:
		return api.ErrSize
	case x.Kind != api.Spool && rule.Name(x.Box) != api.OK:
		return rule.Name(x.Box)
	case x.Kind == api.Copy && rule.Name(x.To) != api.OK:
		return rule.Name(x.To)
	case x.Kind == api.Spool && (len(x.To) > api.MaxPattern || e != api.OK || len(l) != 1):
		return api.ErrForm
	}
	return api.OK
}

// bytesOf all mails.
func bytesOf(s api.State) int {
	n := 0
	for _, b := range s.Boxes {
		for _, m := range b.Mails {
			n += len(m.Text)
		}
	}
	return n
}

// right tells whether a state may be, by the chapter's words.
func right(s api.State) bool {
	ok := len(s.Boxes) <= api.MaxBoxes && len(s.Spool) <= api.MaxSpool && bytesOf(s) <= api.Quota
	seen := map[string]int{}
	for _, b := range s.Boxes {
		seen[b.Name]++
		ok = ok && seen[b.Name] == 1 && rule.Name(b.Name) == api.OK && b.Next >= 1 && b.Next <= api.MaxUid+1 && len(b.Mails) <= api.MaxMails
		for i, m := range b.Mails {
			ok = ok && m.Uid >= 1 && m.Uid <= b.Next-1 && m.Flags >= 0 && m.Flags <= 31 && len(m.Text) <= api.MaxText
			ok = ok && (i == 0 || b.Mails[i-1].Uid < m.Uid)
		}
	}
	for _, x := range s.Spool {
		ok = ok && x.Kind == api.Spool && formOf(x) == api.OK
	}
	return ok
}

// appended: a state behind an Append, box by box.
func appended(s api.State, name string, flags int, text string) (api.State, api.Errno) {
	out := api.State{Spool: s.Spool}
	for _, b := range s.Boxes {
		if b.Name == name {
			if len(b.Mails) == api.MaxMails || b.Next > api.MaxUid || bytesOf(s)+len(text) > api.Quota {
				return api.State{}, api.ErrFull
			}
			b = boxOf(name, b.Next+1, append(append([]api.Mail{}, b.Mails...), mail(b.Next, flags, text))...)
		}
		out.Boxes = append(out.Boxes, b)
	}
	return out, api.OK
}

// behind: a state behind an entry that has its form, by the chapter's words.
func behind(s api.State, x api.Entry) (api.State, api.Errno) {
	boxes := map[string]int{}
	for _, b := range s.Boxes {
		boxes[b.Name]++
	}
	switch {
	case x.Kind == api.Create && boxes[x.Box] > 0:
		return api.State{}, api.ErrTwice
	case x.Kind == api.Create && len(s.Boxes) == api.MaxBoxes, x.Kind == api.Spool && len(s.Spool) == api.MaxSpool:
		return api.State{}, api.ErrFull
	case x.Kind == api.Create:
		return api.State{Boxes: append(append([]api.Box{}, s.Boxes...), boxOf(x.Box, 1)), Spool: s.Spool}, api.OK
	case x.Kind == api.Spool:
		return api.State{Boxes: s.Boxes, Spool: append(append([]api.Entry{}, s.Spool...), x)}, api.OK
	case boxes[x.Box] == 0:
		return api.State{}, api.ErrNone
	case x.Kind == api.Append:
		return appended(s, x.Box, x.Flags, x.Text)
	}
	out := api.State{Spool: s.Spool}
	var found []api.Mail
	for _, b := range s.Boxes {
		c := boxOf(b.Name, b.Next)
		for _, m := range b.Mails {
			if b.Name == x.Box && m.Uid == x.Uid {
				found = append(found, m)
				if x.Kind == api.Flag {
					m.Flags = x.Flags
				}
			}
			if b.Name != x.Box || x.Kind != api.Expunge || m.Flags/8%2 == 0 {
				c.Mails = append(c.Mails, m)
			}
		}
		out.Boxes = append(out.Boxes, c)
	}
	switch {
	case x.Kind == api.Expunge:
		return out, api.OK
	case len(found) == 0, x.Kind == api.Copy && boxes[x.To] == 0:
		return api.State{}, api.ErrNone
	case x.Kind == api.Copy:
		return appended(s, x.To, found[0].Flags, found[0].Text)
	}
	return out, api.OK
}

// enough: each of these errors came up often enough.
func enough(t *testing.T, count map[api.Errno]int, l ...api.Errno) {
	t.Helper()
	for _, e := range l {
		if count[e] < 50 {
			t.Errorf("%v came up %d times", e, count[e])
		}
	}
}

// P9.1, P9.2: drawn states may be, or not, as the chapter's words tell.
func TestStatesDrawn(t *testing.T) {
	d := drawer{rand.New(rand.NewPCG(9, 1))}
	count := map[api.Errno]int{}
	for range 10000 {
		s := d.state()
		if right(s) {
			count[api.OK]++
			may(t, s)
		} else {
			count[api.ErrState]++
			mayNot(t, s)
		}
		if t.Failed() {
			return
		}
	}
	enough(t, count, api.OK, api.ErrState)
}

// P9.3: drawn entries have their form, or not, as the chapter's words tell.
func TestEntriesDrawn(t *testing.T) {
	d := drawer{rand.New(rand.NewPCG(9, 2))}
	count := map[api.Errno]int{}
	for range 30000 {
		x := d.entry()
		want := formOf(x)
		count[want]++
		if form(t, want, x); t.Failed() {
			return
		}
	}
	enough(t, count, api.OK, api.ErrKind, api.ErrForm, api.ErrRange, api.ErrSize)
}

// P9.4, P9.5: drawn batches at drawn states, and at what comes of these, make what the chapter's words tell.
func TestBatchesDrawn(t *testing.T) {
	d := drawer{rand.New(rand.NewPCG(9, 3))}
	count := map[api.Errno]int{}
	s := api.State{}
	for i := range 60000 {
		if i%15 == 0 {
			for s = d.state(); !right(s); s = d.state() {
			}
		}
		l := make([]api.Entry, rare(d, one(d, 1, 1, 1, 2, 3, d.IntN(api.MaxBatch+1)), api.MaxBatch+1))
		for j := range l {
			l[j] = d.entry()
		}
		want, e := s, api.OK
		if len(l) > api.MaxBatch {
			e = api.ErrSize
		}
		for j := 0; j < len(l) && e == api.OK; j++ {
			if e = formOf(l[j]); e == api.OK {
				want, e = behind(want, l[j])
			}
		}
		count[e]++
		if e != api.OK {
			refused(t, e, s, l...)
		} else {
			all(t, s, want, l...)
			s = want
		}
		if t.Failed() {
			return
		}
	}
	enough(t, count, api.OK, api.ErrKind, api.ErrForm, api.ErrRange, api.ErrSize, api.ErrTwice, api.ErrFull, api.ErrNone)
}

// What comes of it: whatever is done, there is never more than the Quota, and Apply is All of one.
func TestApplyDrawn(t *testing.T) {
	d := drawer{rand.New(rand.NewPCG(9, 4))}
	s := api.State{}
	count := 0
	for range 30000 {
		x := d.entry()
		got, e := box.Apply(s, x)
		want, f := box.All(s, []api.Entry{x})
		if e != f || !sameState(got, want) {
			t.Fatalf("Apply(%s, %s) = %s, %d; All: %s, %d", short(s), short(x), short(got), e, short(want), f)
		}
		if e != api.OK {
			continue
		}
		s = got
		n, e := box.Size(s)
		if n != bytesOf(s) || n > api.Quota || e != api.OK {
			t.Fatalf("Size(%s) = %d, %d", short(s), n, e)
		}
		if n > api.Quota-50 {
			count++
		}
	}
	if count < 50 {
		t.Errorf("only %d states were nearly full", count)
	}
}
