// Package glob: texts that are compared.
package glob

import (
	"iter"
	"strings"

	"postroom/api"
)

// What a piece of a pattern stands for.
const (
	oneByte  = iota // just the byte that it has
	anyByte         // any one byte
	anyBytes        // any bytes, none or many
)

// piece of a pattern.
type piece struct {
	kind int
	has  byte
}

// Fold a text to small letters.
func Fold(s string) (string, api.Errno) {
	if len(s) > api.MaxText {
		return "", api.ErrSize
	}
	return small(s), api.OK
}

// Match a text.
func Match(kind int, s, pattern string) (bool, api.Errno) {
	if kind != api.Is && kind != api.Contains && kind != api.Matches {
		return false, api.ErrKind
	}
	if len(s) > api.MaxText || len(pattern) > api.MaxPattern {
		return false, api.ErrSize
	}
	s, pattern = small(s), small(pattern)
	switch kind {
	case api.Is:
		return s == pattern, api.OK
	case api.Contains:
		return strings.Contains(s, pattern), api.OK
	}
	return matches(s, pattern), api.OK
}

// small letters in place of great ones. Byte by byte: strings.ToLower would take bytes above 127 for parts of runes.
func small(s string) string {
	b := []byte(s)
	for i, c := range b {
		if 'A' <= c && c <= 'Z' {
			b[i] = c - 'A' + 'a'
		}
	}
	return string(b)
}

// matches tells whether a text is what a pattern's pieces stand for. It keeps all places up to which the pieces so far
// may reach, and tries none of them twice: however many stars there are, the work is at most text times pattern.
func matches(s, pattern string) bool {
	reached := []int{0} // rising
	for p := range pieces(pattern) {
		reached = reach(s, p, reached)
		if len(reached) == 0 {
			return false
		}
	}
	return reached[len(reached)-1] == len(s)
}

// pieces of a pattern, from left to right.
func pieces(pattern string) iter.Seq[piece] {
	return func(yield func(piece) bool) {
		for i := 0; i < len(pattern); i++ {
			p := piece{oneByte, pattern[i]}
			switch {
			case p.has == '*':
				p = piece{kind: anyBytes}
			case p.has == '?':
				p = piece{kind: anyByte}
			case p.has == '\\' && i+1 < len(pattern):
				i++
				p.has = pattern[i]
			}
			if !yield(p) {
				return
			}
		}
	}
}

// reach: the places behind a piece that begins at one of some places; both lists rise.
func reach(s string, p piece, from []int) []int {
	var to []int
	if p.kind == anyBytes {
		for i := from[0]; i <= len(s); i++ {
			to = append(to, i)
		}
		return to
	}
	for _, i := range from {
		if i < len(s) && (p.kind == anyByte || s[i] == p.has) {
			to = append(to, i+1)
		}
	}
	return to
}
