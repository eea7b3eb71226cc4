package lmtp

import (
	"slices"
	"strings"

	"postroom/api"
)

const (
	lastLine = "."    // what ends a letter; a line of it that begins so has one more of it ahead
	lineEnd  = "\r\n" // what stands behind each line of a letter
)

// session that goes on: the plain one, and the letters that it hands over.
type session struct {
	api.Session
	letters []api.Letter
}

// goOnFrom a plain session, whose list stays as it is.
func goOnFrom(x api.Session) session {
	x.To = slices.Clone(x.To)
	return session{Session: x}
}

// become a session that has a Step, and nothing else.
func (s *session) become(step int) {
	s.Session = api.Session{Step: step}
}

// read a line of a letter.
func (s *session) read(line string) {
	if line == lastLine {
		s.handOver()
		return
	}
	line = strings.TrimPrefix(line, lastLine)
	// Once it is too long nothing more is read, not even a line for which there is room.
	if s.Large || len(s.Text)+len(line)+len(lineEnd) > api.MaxText {
		s.Large = true
		return
	}
	s.Text += line + lineEnd
}

// handOver the letter to each to whom it goes, and be ready for the next one.
func (s *session) handOver() {
	for _, to := range s.To {
		s.letters = append(s.letters, api.Letter{From: s.From, To: to, Text: s.Text})
	}
	s.become(api.Ready)
}
