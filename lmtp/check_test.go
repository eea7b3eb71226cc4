package lmtp_test

import (
	"slices"
	"strings"
	"testing"

	"postroom/api"
	"postroom/lmtp"
)

// refused: Check and Line answer ErrState, and nothing else, whatever the line is.
func refused(t *testing.T, s api.Session) {
	t.Helper()
	if e := lmtp.Check(s); e != api.ErrState {
		t.Errorf("Check(%s) = %d; want %d", short(s), e, api.ErrState)
	}
	for _, line := range []string{"", ".", "x", "LHLO a", "MAIL FROM:<joe@z>", "RCPT TO:<ann@y>", "RCPT TO:x", "DATA", "RSET", "NOOP", "QUIT", strings.Repeat("x", api.MaxLine+1), strings.Repeat("x", api.MaxText+1)} {
		next, code, l, e := lmtp.Line(s, known, line)
		if e != api.ErrState || code != 0 || len(l) != 0 || !same(next, api.Session{}) {
			t.Errorf("Line(%s, %.60q) = %s, %d, %s, %d; want nothing, %d", short(s), line, short(next), code, short(l), e, api.ErrState)
		}
	}
}

// P12.1: sessions that may be, of each Step.
func TestMayBe(t *testing.T) {
	longest := address(strings.Repeat("l", 49), strings.Repeat("d", 50))
	for _, s := range append(every(), api.Session{Step: api.Sender, From: longest}, to(longest), to(joe), body("\x00\xff.\n", longest, joe), large(strings.Repeat("\r", api.MaxText), ann)) {
		if e := lmtp.Check(s); e != api.OK {
			t.Errorf("Check(%s) = %d; want 0", short(s), e)
		}
		s.To = slices.Grow(append([]api.Address{}, s.To...), 3)
		if e := lmtp.Check(s); e != api.OK {
			t.Errorf("Check(%s) with a list that is not nil = %d; want 0", short(s), e)
		}
	}
}

// P12.1: there is no such Step.
func TestWrongSteps(t *testing.T) {
	for _, step := range []int{-1, 6, 7, 9, 256, 1 << 32, -1 << 63, 1<<63 - 1} {
		for _, s := range every() {
			s.Step = step
			refused(t, s)
		}
	}
}

// P12.1: all there may be beside the Step, at each Step: just what that Step has may be.
func TestPartsOfSteps(t *testing.T) {
	for step := api.Fresh; step <= api.Over; step++ {
		for parts := range 16 {
			s := at(step)
			if parts&1 > 0 {
				s.From = joe
			}
			if parts&2 > 0 {
				s.To = []api.Address{ann}
			}
			if parts&4 > 0 {
				s.Text = "x"
			}
			s.Large = parts&8 > 0
			want := false
			switch step {
			case api.Fresh, api.Ready, api.Over:
				want = parts == 0
			case api.Sender:
				want = parts == 1
			case api.Rcpt:
				want = parts == 3
			case api.Body:
				want = parts&3 == 3
			}
			if got := lmtp.Check(s) == api.OK; got != want {
				t.Errorf("Check(%s): may it be: %t; want %t", short(s), got, want)
			}
			if !want {
				refused(t, s)
			}
		}
	}
}

// wrongAddresses, each for something else.
func wrongAddresses() []api.Address {
	return []api.Address{
		{}, address("joe", ""), address("", "z"), address("joe.", "z"), address("joe", ".z"), address("jo e", "z"), address("joe", "z\r\n"), address("joe@z", "z"), address("<joe", "z>"), address("j\xffe", "z"),
		address(strings.Repeat("l", 50), strings.Repeat("d", 50)), address(strings.Repeat("l", 1<<20), "d"),
	}
}

// P12.1: addresses that may not be.
func TestWrongAddresses(t *testing.T) {
	for _, a := range wrongAddresses() {
		refused(t, api.Session{Step: api.Sender, From: a})
		refused(t, api.Session{Step: api.Rcpt, From: a, To: []api.Address{ann}})
		refused(t, api.Session{Step: api.Body, From: a, To: []api.Address{ann}})
		for i := range api.MaxRcpts {
			l := five()
			l[i] = a
			refused(t, to(l...))
			refused(t, body("x", l...))
			refused(t, large("x", l[:i+1]...))
		}
	}
	// What is empty is so in both its parts.
	for _, step := range []int{api.Fresh, api.Ready, api.Over} {
		refused(t, api.Session{Step: step, From: address("x", "")})
		refused(t, api.Session{Step: step, From: address("", "x")})
		refused(t, api.Session{Step: step, To: []api.Address{{}}})
	}
	refused(t, api.Session{Step: api.Sender, From: joe, To: []api.Address{{}}})
}

// P12.1: so many to whom a letter goes, who differ.
func TestGoals(t *testing.T) {
	six := append(five(), address("bob", "Y"))
	for n := range len(six) {
		for _, s := range []api.Session{to(six[:n]...), body("x", six[:n]...), large("x", six[:n]...)} {
			want := api.OK
			if n == 0 {
				want = api.ErrState
			}
			if e := lmtp.Check(s); e != want {
				t.Errorf("Check(%s) = %d; want %d", short(s), e, want)
			}
		}
	}
	refused(t, to(six...))
	refused(t, body("x", six...))
	refused(t, large("", slices.Repeat(six, 1000)...))
	refused(t, to(slices.Repeat([]api.Address{ann}, 1<<16)...))
	for i := range api.MaxRcpts {
		for j := range i {
			l := five()
			l[i] = l[j]
			refused(t, to(l...))
			refused(t, body("x", l...))
		}
	}
	// They differ if one part does, or its letters are great: texts are compared byte by byte.
	for _, a := range []api.Address{address("Ann", "y"), address("ann", "Y"), address("ann", "y.y"), address("an", "ny"), address("y", "ann")} {
		if e := lmtp.Check(to(ann, a)); e != api.OK {
			t.Errorf("Check of ann@y and %q = %d; want 0", a, e)
		}
	}
	// Who sends may be one to whom it goes.
	if e := lmtp.Check(to(joe)); e != api.OK {
		t.Errorf("Check of a letter to its sender = %d; want 0", e)
	}
}

// P12.1: a Text has at most MaxText bytes, be it Large or not.
func TestTexts(t *testing.T) {
	for _, n := range []int{0, 1, api.MaxText - 1, api.MaxText} {
		text := strings.Repeat("x", n)
		for _, s := range []api.Session{body(text, ann), large(text, ann)} {
			if e := lmtp.Check(s); e != api.OK {
				t.Errorf("Check with a Text of %d bytes = %d; want 0", n, e)
			}
		}
	}
	for _, n := range []int{api.MaxText + 1, api.MaxText + 2, 1 << 20} {
		refused(t, body(strings.Repeat("x", n), ann))
		refused(t, large(strings.Repeat("x", n), ann))
	}
}
