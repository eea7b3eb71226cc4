package deliver_test

import (
	"math/rand/v2"
	"slices"
	"strings"
	"testing"

	"postroom/api"
	"postroom/box"
	"postroom/deliver"
	"postroom/judge"
)

// drawer of states, letters and scripts: from few names, so that boxes are there, or not, and become full.
type drawer struct{ *rand.Rand }

// one of some.
func one[E any](d drawer, l ...E) E { return l[d.IntN(len(l))] }

// plain command: no If; seldom it is not allowed.
func (d drawer) plain() api.Command {
	kind := one(d, api.Keep, api.FileInto, api.FileInto, api.FileInto, api.Redirect, api.Redirect, api.Discard, api.SetFlag, api.AddFlag)
	if d.IntN(12) == 0 {
		kind = one(d, api.Reject, api.Reject, api.Stop)
	}
	c := api.Command{Kind: kind}
	switch c.Kind {
	case api.FileInto:
		c.Texts = []string{one(d, "INBOX", "work", "home", "a", "b", "none")}
	case api.Redirect:
		c.Texts = []string{one(d, "a@b", "A <a@b>", "c@d", "INBOX@work")}
	case api.Reject:
		c.Texts = []string{one(d, "no", "", strings.Repeat("n", api.MaxText+d.IntN(2)))}
	case api.SetFlag, api.AddFlag:
		c.Texts = []string{one(d, `\Seen`, `\Answered`, `\Flagged`, `\Deleted`, `\Draft`)}
	}
	if d.IntN(300) == 0 {
		c.Kind = d.IntN(13)
	}
	return c
}

// commands, some of them in an If.
func (d drawer) commands(deep int) []api.Command {
	var l []api.Command
	for range d.IntN(5) {
		if deep == 0 || d.IntN(4) > 0 {
			l = append(l, d.plain())
			continue
		}
		test := one(d, api.Test{Kind: api.Size, Limit: d.IntN(300), Over: true}, api.Test{Kind: api.Exists, Names: []string{one(d, "to", "x")}})
		l = append(l, api.Command{Kind: api.If, Test: test, Then: d.commands(deep - 1), Else: d.commands(deep - 1)})
	}
	return l
}

// script that requires all, or, seldom, less.
func (d drawer) script() []api.Command {
	names := []string{"fileinto", "reject", "imap4flags"}
	if d.IntN(100) == 0 {
		names = names[:1]
	}
	return append([]api.Command{{Kind: api.Require, Texts: names}}, d.commands(2)...)
}

// letter that mostly may be.
func (d drawer) letter() api.Letter {
	l := letterOf(one(d, "", "To: ann\r\n", "To: ann\r\nX: y\r\n") + "\r\n" + strings.Repeat("t", one(d, d.IntN(50), d.IntN(500))))
	l.From.Local = one(d, "joe", "sue", "INBOX")
	if d.IntN(100) == 0 {
		return one(d, api.Letter{}, letterOf("x"), letterOf(""), letterOf(text(api.MaxText+1)))
	}
	return l
}

// state to begin with.
func (d drawer) state() api.State {
	var s api.State
	for _, name := range []string{"INBOX", "work", "home", "a", "b"} {
		if d.IntN(5) > 0 {
			s.Boxes = append(s.Boxes, boxOf(name, one(d, 1, 5, api.MaxUid-3)))
		}
	}
	d.Shuffle(len(s.Boxes), func(i, j int) { s.Boxes[i], s.Boxes[j] = s.Boxes[j], s.Boxes[i] })
	s.Spool = slices.Repeat([]api.Entry{spool("e@f", "")}, one(d, 0, 0, 15))
	if d.IntN(100) == 0 {
		s.Boxes = append(s.Boxes, boxOf("", 0))
	}
	return s
}

// placeOf an action: the box to which it goes, by the chapter's words.
func placeOf(s api.State, a api.Action) string {
	for _, b := range s.Boxes {
		if a.Kind == api.FileInto && b.Name == a.Text {
			return a.Text
		}
	}
	return "INBOX"
}

// entriesOf actions, by the chapter's words.
func entriesOf(s api.State, l api.Letter, actions []api.Action) []api.Entry {
	var out []api.Entry
	there := map[string]int{}
	for _, a := range actions {
		switch a.Kind {
		case api.Keep, api.FileInto:
			place := placeOf(s, a)
			if there[place]++; there[place] == 1 {
				out = append(out, api.Entry{Kind: api.Append, Box: place, Flags: a.Flags, Text: l.Text})
			}
		case api.Redirect:
			out = append(out, api.Entry{Kind: api.Spool, To: a.Text, Text: l.Text})
		case api.Reject:
			out = append(out, api.Entry{Kind: api.Spool, To: l.From.Local + "@" + l.From.Domain, Text: a.Text})
		}
	}
	return out
}

// delivered: what Deliver should answer, by the chapter's words.
func delivered(s api.State, l api.Letter, cs []api.Command) ([]api.Entry, api.State, api.Errno) {
	if e := box.Check(s); e != api.OK {
		return nil, api.State{}, e
	}
	c, e := judge.Judge(cs, l)
	if e != api.OK {
		return nil, api.State{}, e
	}
	actions, _ := judge.End(c)
	entries := entriesOf(s, l, actions)
	for _, x := range entries {
		if s, e = box.Apply(s, x); e != api.OK {
			return nil, api.State{}, e
		}
	}
	return entries, s, api.OK
}

// once: each box has at most one mail more than before, and the same ones ahead of it.
func once(before, after api.State) bool {
	return slices.EqualFunc(before.Boxes, after.Boxes, func(b, c api.Box) bool {
		n := len(c.Mails) - len(b.Mails)
		return b.Name == c.Name && 0 <= n && n <= 1 && c.Next == b.Next+n && slices.Equal(b.Mails, c.Mails[:len(b.Mails)])
	})
}

// P11.1, P11.2: drawn letters, one behind the other, are delivered as the chapter's words tell.
func TestDeliverDrawn(t *testing.T) {
	d := drawer{rand.New(rand.NewPCG(11, 1))}
	errors, kinds := map[api.Errno]int{}, map[int]int{}
	var s api.State
	for i := range 60000 {
		if i%30 == 0 {
			s = d.state()
		}
		l, cs := d.letter(), d.script()
		want, after, e := delivered(s, l, cs)
		errors[e]++
		if e != api.OK {
			if refused(t, e, s, l, cs); t.Failed() {
				return
			}
			continue
		}
		for _, x := range want {
			kinds[x.Kind]++
		}
		delivers(t, s, l, cs, after, want...)
		_, next, _ := deliver.Deliver(s, l, cs)
		if !once(s, next) {
			t.Errorf("Deliver(%s, %s, %s): a letter comes twice: %s", short(s), short(l), short(cs), short(next))
		}
		if t.Failed() {
			return
		}
		s = next
	}
	for _, e := range []api.Errno{api.OK, api.ErrSize, api.ErrKind, api.ErrForm, api.ErrShort, api.ErrFull, api.ErrNone, api.ErrRight, api.ErrState} {
		if errors[e] < 40 {
			t.Errorf("%v came up %d times", e, errors[e])
		}
	}
	if kinds[api.Append] < 5000 || kinds[api.Spool] < 5000 {
		t.Errorf("kinds of entries: %v", kinds)
	}
}
