package box_test

import (
	"slices"
	"strings"
	"testing"

	"postroom/api"
	"postroom/box"
)

// may: a state may be, and Size tells the bytes of its mails.
func may(t *testing.T, s api.State) {
	t.Helper()
	if e := box.Check(s); e != api.OK {
		t.Errorf("Check(%s) = %d; want 0", short(s), e)
	}
	want := 0
	for _, b := range s.Boxes {
		for _, m := range b.Mails {
			want += len(m.Text)
		}
	}
	if n, e := box.Size(s); n != want || e != api.OK {
		t.Errorf("Size(%s) = %d, %d; want %d, 0", short(s), n, e, want)
	}
	all(t, s, s)
}

// mayNot: a state may not be, and all calls say so, whatever else they are handed.
func mayNot(t *testing.T, s api.State) {
	t.Helper()
	if e := box.Check(s); e != api.ErrState {
		t.Errorf("Check(%s) = %d; want %d", short(s), e, api.ErrState)
	}
	if n, e := box.Size(s); n != 0 || e != api.ErrState {
		t.Errorf("Size(%s) = %d, %d; want 0, %d", short(s), n, e, api.ErrState)
	}
	for _, x := range []api.Entry{spool("a@b", ""), {}, create(""), create("boxa"), add("none", 0, "x"), add("boxa", 32, ""), expunge("boxa")} {
		fails(t, api.ErrState, s, x)
		refused(t, api.ErrState, s, slices.Repeat([]api.Entry{x}, api.MaxBatch+1)...)
	}
	refused(t, api.ErrState, s)
}

// P9.1, P9.2: how many boxes, mails, and entries of the Spool.
func TestStateNumbers(t *testing.T) {
	may(t, api.State{})
	may(t, api.State{Boxes: []api.Box{}, Spool: []api.Entry{}})
	for n := range api.MaxBoxes + 3 {
		var s api.State
		for i := range n {
			s.Boxes = append(s.Boxes, boxOf(name(i), 1))
		}
		if n <= api.MaxBoxes {
			may(t, s)
		} else {
			mayNot(t, s)
		}
	}
	for _, n := range []int{0, 1, 2, api.MaxMails - 1, api.MaxMails} {
		may(t, stateOf(boxOf("a", n+1, mails(n, 1)...)))
		may(t, stateOf(boxOf("a", 100, mails(n, 0)...), boxOf("b", n+1, mails(n, 20)...)))
	}
	for _, n := range []int{api.MaxMails + 1, api.MaxMails + 2, 10000} {
		mayNot(t, stateOf(boxOf("a", n+1, mails(n, 0)...)))
		mayNot(t, stateOf(boxOf("a", 1), boxOf("b", n+1, mails(n, 0)...)))
	}
	for _, n := range []int{0, 1, 2, api.MaxSpool - 1, api.MaxSpool} {
		may(t, api.State{Spool: slices.Repeat([]api.Entry{spool("a@b", "x")}, n)})
	}
	for _, n := range []int{api.MaxSpool + 1, api.MaxSpool + 2, 10000} {
		mayNot(t, api.State{Spool: slices.Repeat([]api.Entry{spool("a@b", "x")}, n)})
	}
}

// P9.1: names of boxes are such, and differ.
func TestStateNames(t *testing.T) {
	for c := range 256 {
		s := stateOf(boxOf("a", 1), boxOf("b"+string([]byte{byte(c)}), 1))
		if 33 <= c && c <= 126 {
			may(t, s)
		} else {
			mayNot(t, s)
		}
	}
	may(t, stateOf(boxOf(text(api.MaxName), 1)))
	mayNot(t, stateOf(boxOf(text(api.MaxName+1), 1)))
	mayNot(t, stateOf(boxOf("", 1)))
	mayNot(t, stateOf(boxOf("a", 1), boxOf("", 1)))
	may(t, stateOf(boxOf("INBOX", 1), boxOf("inbox", 1), boxOf("Inbox", 1), boxOf("INBO", 1), boxOf("INBOX.", 1)))
	for i := range api.MaxBoxes {
		for j := range i {
			var s api.State
			for k := range api.MaxBoxes {
				s.Boxes = append(s.Boxes, boxOf(name(k), 1))
			}
			s.Boxes[i] = boxOf(name(j), 2, mail(1, 0, "x"))
			mayNot(t, s)
		}
	}
}

// P9.1: the Next of each box.
func TestStateNext(t *testing.T) {
	next := func(n int) api.State { return stateOf(boxOf("a", 1), boxOf("b", n), boxOf("c", 1)) }
	for _, n := range []int{1, 2, 1000, api.MaxUid - 1, api.MaxUid, api.MaxUid + 1} {
		may(t, next(n))
	}
	for _, n := range append([]int{0, -1, -2, api.MaxUid + 2, api.MaxUid + 3}, far...) {
		mayNot(t, next(n))
	}
}

// P9.1: Uids rise, and are below Next.
func TestStateUids(t *testing.T) {
	uids := func(next int, l ...int) api.State {
		b := boxOf("b", next)
		for _, u := range l {
			b.Mails = append(b.Mails, mail(u, 0, "x"))
		}
		return stateOf(boxOf("a", 100, mails(3, 2)...), b)
	}
	may(t, uids(2, 1))
	may(t, uids(4, 1, 2, 3))
	may(t, uids(1000, 1, 2, 3, 7, 999))
	may(t, uids(1000, 998))
	may(t, uids(api.MaxUid+1, 1, api.MaxUid-1, api.MaxUid))
	mayNot(t, uids(1, 1))
	mayNot(t, uids(1, 0))
	mayNot(t, uids(2, 0))
	mayNot(t, uids(2, 0, 1))
	mayNot(t, uids(2, -1))
	mayNot(t, uids(2, -1, 1))
	mayNot(t, uids(2, 1, 2))
	mayNot(t, uids(3, 1, 3))
	mayNot(t, uids(3, 3))
	mayNot(t, uids(5, 1, 1))
	mayNot(t, uids(5, 2, 1))
	mayNot(t, uids(5, 1, 3, 2))
	mayNot(t, uids(5, 1, 3, 3))
	mayNot(t, uids(api.MaxUid+1, api.MaxUid, api.MaxUid+1))
	for _, n := range far {
		mayNot(t, uids(5, n))
		mayNot(t, uids(5, 1, n))
		mayNot(t, uids(5, n, 1))
		mayNot(t, uids(n, n-1))
	}
}

// P9.1: the Flags of each mail, and its Text.
func TestStateMails(t *testing.T) {
	of := func(m api.Mail) api.State {
		return stateOf(boxOf("a", 1), boxOf("b", 10, mail(1, 0, "x"), m, mail(3, 0, "x")))
	}
	for n := range 32 {
		may(t, of(mail(2, n, "x")))
	}
	for _, n := range append([]int{-1, -2, -16, 32, 33, 64}, far...) {
		mayNot(t, of(mail(2, n, "x")))
	}
	for _, n := range []int{0, 1, api.MaxText - 1, api.MaxText} {
		may(t, of(mail(2, 0, text(n))))
	}
	for _, n := range []int{api.MaxText + 1, api.MaxText + 2, api.Quota, 1 << 20} {
		mayNot(t, of(mail(2, 0, text(n))))
	}
	may(t, of(mail(2, 0, "\x00\xff\r\n.\r\nä")))
}

// P9.1, P9.2: all mails together have at most Quota bytes; the Spool does not count.
func TestStateQuota(t *testing.T) {
	may(t, stateOf(boxOf("a", 4, mails(3, api.MaxText)...)))
	mayNot(t, stateOf(boxOf("a", 5, append(mails(3, api.MaxText), mail(4, 0, "x"))...)))
	may(t, stateOf(boxOf("a", 5, append(mails(3, api.MaxText), mail(4, 0, ""))...)))
	may(t, stateOf(boxOf("a", 31, mails(30, 40)...), boxOf("b", 31, mails(30, 40)...), boxOf("c", 31, mails(30, 40)...), boxOf("d", 31, mails(30, 40)...), boxOf("e", 31, mails(30, 40)...)))
	mayNot(t, stateOf(boxOf("a", 31, mails(30, 40)...), boxOf("b", 31, mails(30, 40)...), boxOf("c", 31, mails(30, 40)...), boxOf("d", 31, mails(30, 40)...), boxOf("e", 31, append(mails(29, 40), mail(30, 0, text(41)))...)))
	mayNot(t, stateOf(boxOf("a", 31, mails(30, 41)...), boxOf("b", 31, mails(30, 40)...), boxOf("c", 31, mails(30, 40)...), boxOf("d", 31, mails(30, 40)...), boxOf("e", 31, mails(30, 40)...)))
	mayNot(t, stateOf(boxOf("a", 31, mails(30, api.MaxText)...)))
	may(t, api.State{Boxes: []api.Box{boxOf("a", 4, mails(3, api.MaxText)...)}, Spool: slices.Repeat([]api.Entry{spool("a@b", text(api.MaxText))}, api.MaxSpool)})
}

// P9.1: what is in the Spool has the form of a Spool, wherever it stands.
func TestStateSpool(t *testing.T) {
	good := spool("a@b", "x")
	with := func(x api.Entry, at int) api.State {
		l := slices.Repeat([]api.Entry{good}, 5)
		l[at] = x
		return api.State{Boxes: []api.Box{boxOf("a", 2, mail(1, 0, "x"))}, Spool: l}
	}
	long := "a@" + text(api.MaxPattern-2)
	for _, x := range []api.Entry{spool("Ann <a@b>", ""), spool(long, text(api.MaxText)), spool(" a@b\t", "\x00")} {
		for i := range 5 {
			may(t, with(x, i))
		}
	}
	for _, x := range []api.Entry{
		{}, {Kind: 7, To: "a@b"}, {To: "a@b"}, {Kind: -1, To: "a@b"},
		create("a"), add("a", 0, "x"), flag("a", 1, 0), expunge("a"), copied("a", 1, "a"),
		{Kind: api.Spool, To: "a@b", Box: "a"}, {Kind: api.Spool, To: "a@b", Uid: 1}, {Kind: api.Spool, To: "a@b", Flags: 1},
		spool("", "x"), spool("a", "x"), spool("a@b, c@d", "x"), spool("a@b,", "x"), spool(long+" ", "x"), spool("a@b"+strings.Repeat(" ", api.MaxPattern-2), "x"),
		spool("a@b", text(api.MaxText+1)),
	} {
		for i := range 5 {
			mayNot(t, with(x, i))
		}
	}
}

// A state that is far too large is refused, and soon.
func TestStateFarTooLarge(t *testing.T) {
	many := 1 << 20
	mayNot(t, api.State{Boxes: make([]api.Box, many)})
	mayNot(t, api.State{Boxes: slices.Repeat([]api.Box{boxOf("a", 1)}, many)})
	mayNot(t, api.State{Spool: make([]api.Entry, many)})
	mayNot(t, stateOf(boxOf("a", 1, make([]api.Mail, many)...)))
	mayNot(t, stateOf(boxOf(text(many), 1)))
	mayNot(t, api.State{Spool: []api.Entry{spool(text(many), "")}})
	mayNot(t, api.State{Spool: []api.Entry{spool("a@b", text(many))}})
}
