package lmtp_test

import (
	"slices"
	"strings"
	"testing"

	"postroom/api"
	"postroom/lmtp"
)

// roomy: a copy of a list, with something in its spare room.
func roomy[E any](spare E, l ...E) []E {
	return append(append(make([]E, 0, len(l)+20), l...), slices.Repeat([]E{spare}, 20)...)[:len(l)]
}

// whole list, its spare room too.
func whole[E any](l []E) []E { return slices.Clone(l[:cap(l)]) }

// overwrite a list, its spare room too.
func overwrite[E any](with E, l []E) {
	for i := range l[:cap(l)] {
		l[:cap(l)][i] = with
	}
}

// linesOfAll: at least one for each thing that may happen.
var linesOfAll = []string{"LHLO a", "LHLO", "MAIL FROM:<joe@z>", "RCPT TO:<cid@q>", "RCPT TO:<ann@y>", "RCPT TO:<dan@y>", "DATA", "RSET", "NOOP", "QUIT", ".", "..", "a: b", strings.Repeat("x", api.MaxText)}

// What is handed in stays as it is, its spare room too, and what is answered is new memory.
func TestSharesNothing(t *testing.T) {
	spare, written := address("spare", "spare"), address("over", "written")
	for _, s := range append(every(), at(9), to(), body("", ann, ann)) {
		for _, line := range linesOfAll {
			x, users := s, roomy("spare", known...)
			x.To = roomy(spare, s.To...)
			keptTo, keptUsers := whole(x.To), whole(users)
			asHandedIn := func() bool {
				return slices.Equal(whole(x.To), keptTo) && slices.Equal(whole(users), keptUsers)
			}
			first, code, firstLetters, e := lmtp.Line(x, users, line)
			second, again, secondLetters, f := lmtp.Line(x, users, line)
			if code != again || e != f || !same(first, second) || !slices.Equal(firstLetters, secondLetters) || !asHandedIn() {
				t.Fatalf("Line(%s, %.60q) changes what it is handed, or answers otherwise the second time", short(s), line)
			}
			want, wantLetters := second, slices.Clone(secondLetters)
			want.To = slices.Clone(second.To)
			overwrite(written, first.To)
			overwrite(api.Letter{From: written}, firstLetters)
			if !asHandedIn() {
				t.Errorf("Line(%s, %.60q) answers memory that it was handed", short(s), line)
			}
			overwrite(written, x.To)
			overwrite("overwritten", users)
			if !same(second, want) || !slices.Equal(secondLetters, wantLetters) {
				t.Errorf("Line(%s, %.60q): an answer shares memory with another, or with what was handed in", short(s), line)
			}
		}
	}
}

// Two sessions that go on from one do not come in each other's way.
func TestBranches(t *testing.T) {
	s, _, _, _ := lmtp.Line(to(bob), known, "RCPT TO:<cid@y>")
	a, _, _, _ := lmtp.Line(s, known, "RCPT TO:<ann@y>")
	b, _, _, _ := lmtp.Line(s, known, "RCPT TO:<ann@q>")
	if !same(s, to(bob, cid)) || !same(a, to(bob, cid, ann)) || !same(b, to(bob, cid, address("ann", "q"))) {
		t.Errorf("%s, %s, %s", short(s), short(a), short(b))
	}
}

// Check changes nothing either.
func TestCheckChangesNothing(t *testing.T) {
	for _, s := range append(every(), to(), body("", ann, ann)) {
		s.To = roomy(address("spare", "spare"), s.To...)
		kept := whole(s.To)
		lmtp.Check(s)
		if !slices.Equal(whole(s.To), kept) {
			t.Errorf("Check(%s) changes what it is handed", short(s))
		}
	}
}
