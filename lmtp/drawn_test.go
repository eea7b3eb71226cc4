package lmtp_test

import (
	"math/rand/v2"
	"slices"
	"strings"
	"testing"

	"postroom/api"
	"postroom/lmtp"
	"postroom/who"
)

// drawer of lines and sessions.
type drawer struct{ *rand.Rand }

// one of some.
func one[E any](d drawer, l ...E) E { return l[d.IntN(len(l))] }

// cased: a text with great and small letters by chance.
func (d drawer) cased(s string) string {
	b := []byte(s)
	for i, c := range b {
		if d.IntN(4) == 0 && 'A' <= c && c <= 'Z' {
			b[i] = c + 32
		}
	}
	return string(b)
}

// goal of a letter, as a text; mostly it is an address.
func (d drawer) goal() string {
	return one(d, "<", "<", "<", "<", "<", "<", "<", " <", "", "<<") +
		one(d, "ann", "bob", "cid", "ann", "bob", "cid", "dan", "Ann", "a.n", "") + "@" + one(d, "y", "y", "z", "q", "q.r", "Y", "q.", "") +
		one(d, ">", ">", ">", ">", ">", ">", ">", "> ", "", ">>")
}

// line that suits a session's Step, or, seldom, one that does not.
func (d drawer) line(step int) string {
	if step == api.Body && d.IntN(8) > 0 {
		return one(d, "", "a: b", ".", "..", ".x", "x.", "QUIT", strings.Repeat("l", d.IntN(400)), strings.Repeat("l", d.IntN(1500)))
	}
	if d.IntN(30) == 0 {
		return one(d, "", ".", "HELP", "DATA ", "QUIT.", " RSET", "LHLO", "MAIL FROM", strings.Repeat("N", 299+d.IntN(4)), "LHLO "+strings.Repeat("a", 97+d.IntN(4)), "LHLO .", "NOOP"+strings.Repeat(" ", d.IntN(300)))
	}
	common := []string{"LHLO a.b", "MAIL FROM:" + d.goal(), "RCPT TO:" + d.goal(), "DATA", "NOOP"}
	if step < api.Rcpt && d.IntN(3) > 0 {
		return d.cased(common[step])
	}
	switch d.IntN(30) {
	case 0:
		return d.cased(one(d, "RSET", "QUIT"))
	case 1, 2, 3:
		return d.cased(one(d, common...))
	case 4, 5:
		return d.cased("DATA")
	}
	return d.cased("RCPT TO:" + d.goal())
}

// addressIn a text, by the chapter's words, as who takes a list of one.
func addressIn(text string) (api.Address, bool) {
	l, e := who.List(text)
	if e != api.OK || len(l) != 1 || text != "<"+l[0].Local+"@"+l[0].Domain+">" {
		return api.Address{}, false
	}
	return l[0], true
}

// greatened: with great letters for small ones.
func greatened(s string) string {
	return strings.Map(func(r rune) rune {
		if 'a' <= r && r <= 'z' {
			return r - 32
		}
		return r
	}, s)
}

// commandOf a line: its words in great letters, and what is behind them; none, if it begins as no command.
func commandOf(line string) (word, rest string) {
	for _, w := range []string{"LHLO ", "MAIL FROM:", "RCPT TO:", "DATA", "RSET", "NOOP", "QUIT"} {
		open := strings.HasSuffix(w, " ") || strings.HasSuffix(w, ":")
		if n := len(w); len(line) >= n && len(line) <= 300 && greatened(line[:n]) == w && (open || len(line) == n) {
			return w, line[n:]
		}
	}
	return "", ""
}

// commandTold: what a command should make of a session, by the chapter's words.
func commandTold(s api.Session, line string) (api.Session, int) {
	word, rest := commandOf(line)
	a, isOne := addressIn(rest)
	ready := api.Session{Step: api.Ready}
	switch word {
	case "LHLO ":
		if _, e := who.Part(api.All, api.Address{Local: "x", Domain: rest}); e != api.OK {
			return s, 501
		}
		return ready, 250
	case "MAIL FROM:":
		if s.Step != api.Ready {
			return s, 503
		} else if !isOne {
			return s, 501
		}
		return api.Session{Step: api.Sender, From: a}, 250
	case "RCPT TO:":
		return goalTold(s, a, isOne)
	case "DATA":
		if s.Step != api.Rcpt {
			return s, 503
		}
		return api.Session{Step: api.Body, From: s.From, To: s.To}, 354
	case "RSET":
		if s.Step == api.Fresh {
			return s, 250
		}
		return ready, 250
	case "NOOP":
		return s, 250
	case "QUIT":
		return api.Session{Step: api.Over}, 221
	}
	return s, 500
}

// goalTold: what one more to whom it goes should make of a session, by the chapter's words.
func goalTold(s api.Session, a api.Address, isOne bool) (api.Session, int) {
	if s.Step != api.Sender && s.Step != api.Rcpt {
		return s, 503
	} else if !isOne {
		return s, 501
	} else if a.Local != "ann" && a.Local != "bob" && a.Local != "cid" {
		return s, 550
	}
	for _, b := range s.To {
		if a == b {
			return s, 250
		}
	}
	if len(s.To) == 5 {
		return s, 452
	}
	return api.Session{Step: api.Rcpt, From: s.From, To: append(slices.Clone(s.To), a)}, 250
}

// told: what Line should answer of a session that may be, by the chapter's words.
func told(s api.Session, line string) (api.Session, int, []api.Letter) {
	if s.Step == api.Over {
		return s, 0, nil
	} else if s.Step != api.Body {
		next, code := commandTold(s, line)
		return next, code, nil
	} else if line == "." {
		var l []api.Letter
		for _, a := range s.To {
			l = append(l, api.Letter{From: s.From, To: a, Text: s.Text})
		}
		return api.Session{Step: api.Ready}, 0, l
	}
	if line != "" && line[0] == '.' {
		line = line[1:]
	}
	next := s
	next.Text += line + "\r\n"
	if s.Large || len(next.Text) > 2000 {
		next = s
		next.Large = true
	}
	return next, 0, nil
}

// P12.1 to P12.4: drawn lines, one behind the other, go as the chapter's words tell.
func TestLinesDrawn(t *testing.T) {
	d := drawer{rand.New(rand.NewPCG(12, 1))}
	codes, steps, handed, cut := map[int]int{}, map[int]int{}, 0, 0
	var s api.Session
	for range 200000 {
		if s.Step == api.Over && d.IntN(3) == 0 {
			s = api.Session{}
		}
		line := d.line(s.Step)
		want, code, l := told(s, line)
		if goes(t, s, line, want, code, l...); t.Failed() {
			return
		}
		codes[code]++
		steps[s.Step]++
		handed += len(l)
		if s.Large {
			cut += len(l)
		}
		s, _, _, _ = lmtp.Line(s, known, line)
	}
	for _, c := range []int{0, 221, 250, 354, 452, 500, 501, 503, 550} {
		if codes[c] < 100 {
			t.Errorf("%d came up %d times", c, codes[c])
		}
	}
	for step := api.Fresh; step <= api.Over; step++ {
		if steps[step] < 500 {
			t.Errorf("Step %d came up %d times", step, steps[step])
		}
	}
	if handed < 2000 || cut < 100 {
		t.Errorf("%d letters, %d of them cut off", handed, cut)
	}
}

// session of any kind: mostly it may not be.
func (d drawer) session() api.Session {
	s := one(d, every()...)
	if d.IntN(3) == 0 {
		s.Step = d.IntN(8) - 1
	}
	switch d.IntN(6) {
	case 0:
		s.From = one(d, api.Address{}, joe, address("x", ""), address("a", strings.Repeat("b", 97+d.IntN(3))))
	case 1:
		s.To = nil
		for range d.IntN(8) {
			s.To = append(s.To, one(d, ann, bob, cid, joe, address("a", "b"), address("c", "d"), address("e", "f"), address(one(d, "g", "", "g."), "h")))
		}
	case 2:
		s.Text = strings.Repeat("t", one(d, 0, 1, 1999+d.IntN(3)))
	case 3:
		s.Large = !s.Large
	}
	return s
}

// isOne tells whether a session may be, by the chapter's words.
func isOne(s api.Session) bool {
	sends, goals, text := s.Step >= 2 && s.Step <= 4, s.Step == 3 || s.Step == 4, s.Step == 4
	if s.Step < 0 || s.Step > 5 || sends != (s.From != api.Address{}) || sends && who.Check(s.From) != api.OK {
		return false
	}
	differ := map[api.Address]int{}
	for _, a := range s.To {
		if differ[a]++; who.Check(a) != api.OK {
			return false
		}
	}
	if goals != (len(s.To) > 0) || len(s.To) > 5 || len(differ) != len(s.To) {
		return false
	}
	return text && len(s.Text) <= 2000 || s.Text == "" && !s.Large
}

// P12.1: drawn sessions may be, or not, as the chapter's words tell.
func TestSessionsDrawn(t *testing.T) {
	d := drawer{rand.New(rand.NewPCG(12, 2))}
	came := map[bool]int{}
	for range 60000 {
		s := d.session()
		may := isOne(s)
		came[may]++
		if !may {
			refused(t, s)
		} else {
			line := d.line(s.Step)
			want, code, l := told(s, line)
			goes(t, s, line, want, code, l...)
		}
		if t.Failed() {
			return
		}
	}
	if came[true] < 5000 || came[false] < 5000 {
		t.Errorf("may be: %v", came)
	}
}
