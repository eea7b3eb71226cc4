package lmtp

import (
	"slices"
	"strings"

	"postroom/api"
	"postroom/glob"
	"postroom/who"
)

// Words of commands: what these begin with, or, of the last four, the whole line, as small letters.
const (
	greetWord  = "lhlo "
	senderWord = "mail from:"
	goalWord   = "rcpt to:"
	bodyWord   = "data"
	resetWord  = "rset"
	idleWord   = "noop"
	endWord    = "quit"
)

// Codes that are told.
const (
	bye       = 221
	done      = 250
	goAhead   = 354
	noRoom    = 452
	noCommand = 500
	noForm    = 501
	outOfTurn = 503
	nobody    = 550
)

// obey a command: its code.
func (s *session) obey(line string, known []string) int {
	if len(line) > api.MaxLine {
		return noCommand
	}
	if name, ok := behind(greetWord, line); ok {
		return s.greet(name)
	}
	if text, ok := behind(senderWord, line); ok {
		return s.setSender(text)
	}
	if text, ok := behind(goalWord, line); ok {
		return s.addGoal(text, known)
	}
	return s.obeyWord(line)
}

// obeyWord: a command that is just its word.
func (s *session) obeyWord(line string) int {
	word, _ := glob.Fold(line)
	switch word {
	case bodyWord:
		return s.beginBody()
	case resetWord:
		s.reset()
		return done
	case idleWord:
		return done
	case endWord:
		s.become(api.Over)
		return bye
	}
	return noCommand
}

// greet: the session has told who it is.
func (s *session) greet(name string) int {
	// A name has no rules of its own: it is what may stand behind an @.
	if who.Check(api.Address{Local: "x", Domain: name}) != api.OK {
		return noForm
	}
	s.become(api.Ready)
	return done
}

// setSender of the letter that is to come.
func (s *session) setSender(text string) int {
	if s.Step != api.Ready {
		return outOfTurn
	}
	from, ok := addressOf(text)
	if !ok {
		return noForm
	}
	s.From, s.Step = from, api.Sender
	return done
}

// addGoal: one more to whom the letter goes.
func (s *session) addGoal(text string, known []string) int {
	if s.Step != api.Sender && s.Step != api.Rcpt {
		return outOfTurn
	}
	to, ok := addressOf(text)
	switch {
	case !ok:
		return noForm
	case !slices.Contains(known, to.Local):
		return nobody
	case slices.Contains(s.To, to):
		return done
	case len(s.To) >= api.MaxRcpts:
		return noRoom
	}
	s.To, s.Step = append(s.To, to), api.Rcpt
	return done
}

// beginBody: the lines that come are those of the letter.
func (s *session) beginBody() int {
	if s.Step != api.Rcpt {
		return outOfTurn
	}
	s.Step = api.Body
	return goAhead
}

// reset: all is forgotten, but whether the session has told who it is.
func (s *session) reset() {
	if s.Step != api.Fresh {
		s.become(api.Ready)
	}
}

// behind a word with which a line begins, in great or small letters: what is left of the line.
func behind(word, line string) (string, bool) {
	if len(line) < len(word) {
		return "", false
	}
	is, _ := glob.Match(api.Is, line[:len(word)], word)
	return line[len(word):], is
}

// addressOf a text that is a plain one between < and >, and nothing else. who.List would take blanks and words beside it.
func addressOf(text string) (api.Address, bool) {
	text, opened := strings.CutPrefix(text, "<")
	text, closed := strings.CutSuffix(text, ">")
	local, domain, at := strings.Cut(text, "@")
	a := api.Address{Local: local, Domain: domain}
	if !opened || !closed || !at || who.Check(a) != api.OK {
		return api.Address{}, false
	}
	return a, true
}
