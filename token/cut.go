package token

import (
	"strings"

	"postroom/api"
)

const (
	blanks = " \t\r\n"
	marks  = "{}()[];,"
)

// span: how many bytes a text begins with that are as they are asked for.
func span(s string, fits func(c byte) bool) int {
	n := 0
	for n < len(s) && fits(s[n]) {
		n++
	}
	return n
}

// gapLength: how many bytes that say nothing a text begins with; with an error, how many stand ahead of the comment that
// does not end.
func gapLength(s string) (int, api.Errno) {
	at := 0
	for {
		at += span(s[at:], func(c byte) bool { return strings.IndexByte(blanks, c) >= 0 })
		switch rest := s[at:]; {
		case strings.HasPrefix(rest, "#"):
			at += span(rest, func(c byte) bool { return c != '\n' })
		case strings.HasPrefix(rest, "/*"):
			inside, _, ends := strings.Cut(rest[len("/*"):], "*/")
			if !ends {
				return at, api.ErrShort
			}
			at += len("/*") + len(inside) + len("*/")
		default:
			return at, api.OK
		}
	}
}

// kindOfFirst: which kind of token a text begins with, right or wrong; 0, if none. The text is not empty.
func kindOfFirst(s string) int {
	switch {
	case wordLength(s) > 0:
		return api.Word
	case s[0] == ':' && wordLength(s[1:]) > 0:
		return api.Tag
	case isDigit(s[0]):
		return api.Number
	case s[0] == '"':
		return api.String
	case isMark(s[:1]):
		return api.Mark
	}
	return 0
}

// readFirst token of a text, which is of this kind, and how many bytes it takes.
func readFirst(kind int, s string) (api.Token, int, api.Errno) {
	switch kind {
	case api.Number:
		return readNumber(s)
	case api.String:
		return readString(s)
	case api.Tag:
		n := len(":") + wordLength(s[1:])
		return api.Token{Kind: kind, Text: s[1:n]}, n, api.OK
	case api.Word:
		n := wordLength(s)
		return api.Token{Kind: kind, Text: s[:n]}, n, api.OK
	}
	return api.Token{Kind: kind, Text: s[:1]}, 1, api.OK
}

// readNumber that a text begins with, and how many bytes it takes.
func readNumber(s string) (api.Token, int, api.Errno) {
	number := 0
	n := span(s, func(c byte) bool {
		if !isDigit(c) {
			return false
		}
		// Above the bound all numbers are alike: it stays just there, since more digits would leave 64 bits.
		number = min(number*10+int(c-'0'), api.MaxNumber+1)
		return true
	})
	if times := unit(s[n:]); times > 1 {
		number *= times
		n++
	}
	if n < len(s) && inWord(s[n]) {
		return api.Token{}, 0, api.ErrForm
	}
	if number > api.MaxNumber {
		return api.Token{}, 0, api.ErrRange
	}
	return api.Token{Kind: api.Number, Number: number}, n, api.OK
}

// unit that a text behind digits begins with; 1, if none.
func unit(s string) int {
	if s == "" {
		return 1
	}
	switch s[0] {
	case 'K', 'k':
		return 1 << 10
	case 'M', 'm':
		return 1 << 20
	}
	return 1
}

// readString that a text begins with, and how many bytes it takes.
func readString(s string) (api.Token, int, api.Errno) {
	var text []byte
	plain := false // behind a backslash any byte is
	inside := span(s[1:], func(c byte) bool {
		switch {
		case !plain && c == '"':
			return false
		case !plain && c == '\\':
			plain = true
		default:
			plain = false
			text = append(text, c)
		}
		return true
	})
	if 1+inside == len(s) {
		return api.Token{}, 0, api.ErrShort
	}
	return api.Token{Kind: api.String, Text: string(text)}, 1 + inside + 1, api.OK
}

// wordLength: how many bytes the word has that a text begins with; 0, if none.
func wordLength(s string) int {
	if s == "" || isDigit(s[0]) {
		return 0
	}
	return span(s, inWord)
}

// isWord tells whether a text is one word.
func isWord(s string) bool {
	return s != "" && wordLength(s) == len(s)
}

// isMark tells whether a text is a mark.
func isMark(s string) bool {
	return len(s) == 1 && strings.IndexByte(marks, s[0]) >= 0
}

// inWord tells whether a byte may be in a word.
func inWord(c byte) bool {
	return 'a' <= c && c <= 'z' || 'A' <= c && c <= 'Z' || isDigit(c) || c == '_'
}

// isDigit tells whether a byte is a decimal digit.
func isDigit(c byte) bool {
	return '0' <= c && c <= '9'
}
