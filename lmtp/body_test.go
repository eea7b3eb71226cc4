package lmtp_test

import (
	"strings"
	"testing"

	"postroom/api"
)

// everyLine: what is a command elsewhere, and what is none.
var everyLine = []string{
	"", " ", "x", "a: b", "LHLO a", "MAIL FROM:<joe@z>", "RCPT TO:<bob@y>", "DATA", "RSET", "NOOP", "QUIT", "..", ".x", ". ", " .", ".\r", ".\r\n", "\r\n", "\x00\xff", "...", ".QUIT",
	strings.Repeat("x", api.MaxLine+1), "." + strings.Repeat("x", api.MaxLine+1), strings.Repeat("x", api.MaxText+1), strings.Repeat("x", 1<<20),
}

// P12.4: a session that is Over stays so, and is told nothing.
func TestOver(t *testing.T) {
	for _, line := range append(everyLine, ".") {
		stays(t, at(api.Over), line, 0)
	}
}

// P12.4: the lines of a letter, whatever they look like.
func TestLinesOfLetters(t *testing.T) {
	for line, want := range map[string]string{
		"": "", " ": " ", "x": "x", "a: b": "a: b", "..": ".", ".x": "x", "...": "..", ". ": " ", " .": " .", "x.": "x.", ".\r": "\r", ".\r\n": "\r\n", "\r\n": "\r\n", "\n.\n": "\n.\n", "\x00\xff": "\x00\xff",
		"LHLO a": "LHLO a", "MAIL FROM:<joe@z>": "MAIL FROM:<joe@z>", "RCPT TO:<bob@y>": "RCPT TO:<bob@y>", "DATA": "DATA", "RSET": "RSET", "NOOP": "NOOP", "QUIT": "QUIT", ".QUIT": "QUIT",
		strings.Repeat("x", api.MaxLine+1): strings.Repeat("x", api.MaxLine+1),
	} {
		goes(t, body("", ann), line, body(want+"\r\n", ann), 0)
		goes(t, body("a: b\r\n", bob, ann), line, body("a: b\r\n"+want+"\r\n", bob, ann), 0)
		goesFor(t, body("a", ann), nil, line, body("a"+want+"\r\n", ann), 0)
	}
}

// P12.4: a line that is just a dot ends the letter: it goes to each, in their order.
func TestHandOver(t *testing.T) {
	for _, text := range []string{"", "\r\n", "a: b\r\n\r\nhello\r\n", ".", "no end", "\x00\xff", strings.Repeat("x", api.MaxText)} {
		goes(t, body(text, ann), ".", at(api.Ready), 0, letters(text, ann)...)
		goes(t, body(text, bob, ann), ".", at(api.Ready), 0, letters(text, bob, ann)...)
		goes(t, body(text, five()...), ".", at(api.Ready), 0, letters(text, five()...)...)
		goes(t, large(text, five()...), ".", at(api.Ready), 0, letters(text, five()...)...)
		goesFor(t, body(text, cid), nil, ".", at(api.Ready), 0, letters(text, cid)...) // it was known when it was told
	}
}

// P12.4: a Text has at most MaxText bytes, with the line's end, and without the dot ahead of it.
func TestRoomOfTexts(t *testing.T) {
	for _, has := range []int{0, 1, 2, 1000, api.MaxText - 3, api.MaxText - 2, api.MaxText - 1, api.MaxText} {
		text := strings.Repeat("t", has)
		room := api.MaxText - has - 2 // for the line, beside its end
		for _, n := range []int{0, 1, room - 1, room, room + 1, room + 2, room + 1000, 1 << 20} {
			if n < 0 {
				continue
			}
			line := strings.Repeat("x", n)
			want := body(text+line+"\r\n", ann, bob)
			if n > room {
				want = large(text, ann, bob)
			}
			goes(t, body(text, ann, bob), line, want, 0)
			if line != "" { // a dot alone would end the letter
				goes(t, body(text, ann, bob), "."+line, want, 0)
			}
		}
	}
}

// P12.4: once it is Large it stays so: not even a line for which there is room is read any more.
func TestLarge(t *testing.T) {
	for _, text := range []string{"", "a: b\r\n", strings.Repeat("t", api.MaxText)} {
		for _, line := range everyLine {
			stays(t, large(text, ann, bob), line, 0)
		}
	}
	goes(t, body("a: b\r\n", ann), strings.Repeat("x", api.MaxText), large("a: b\r\n", ann), 0)
	// The next letter is none that is Large.
	long := strings.Repeat("x", 1500)
	s, _, l := follow(t, "LHLO a", "MAIL FROM:<joe@z>", "RCPT TO:<ann@y>", "DATA", long, long, "y", ".", "MAIL FROM:<joe@z>", "RCPT TO:<bob@y>", "DATA", "z")
	if !same(s, body("z\r\n", bob)) || len(l) != 1 || l[0] != letters(long+"\r\n", ann)[0] {
		t.Errorf("behind a large letter: %s, %s", short(s), short(l))
	}
}

// P12.4: line by line up to the last byte.
func TestGrow(t *testing.T) {
	s, text := body("", ann), ""
	for range api.MaxText / 5 {
		text += "abc\r\n"
		goes(t, s, "abc", body(text, ann), 0)
		s = body(text, ann)
	}
	goes(t, s, "", large(text, ann), 0)
	goes(t, s, ".", at(api.Ready), 0, letters(text, ann)...)
}
