package box_test

import (
	"slices"
	"testing"

	"postroom/api"
)

// P9.4: a Create: an empty box behind all.
func TestCreate(t *testing.T) {
	s := api.State{Spool: []api.Entry{spool("a@b", "x")}}
	for i := range api.MaxBoxes {
		next := api.State{Boxes: append(slices.Clone(s.Boxes), boxOf(name(i), 1)), Spool: s.Spool}
		done(t, s, create(name(i)), next)
		s = next
		s.Boxes[i] = boxOf(name(i), 7, mail(2, 1, "x"), mail(5, 8, "yy"))
		for j := range i + 1 {
			fails(t, api.ErrTwice, s, create(name(j)))
		}
	}
	fails(t, api.ErrFull, s, create("more"))
	for j := range api.MaxBoxes { // that there is one is told ahead of how many there are
		fails(t, api.ErrTwice, s, create(name(j)))
	}
	done(t, stateOf(boxOf("a", 1)), create("A"), stateOf(boxOf("a", 1), boxOf("A", 1)))
	done(t, stateOf(boxOf("b", 1)), create("a"), stateOf(boxOf("b", 1), boxOf("a", 1)))
}

// P9.4: a Spool stands behind the others, as it is.
func TestSpool(t *testing.T) {
	s := stateOf(boxOf("a", 9, mail(3, 1, "x")))
	for i := range api.MaxSpool {
		x := spool(" Ann <a@b>", text(i))
		next := api.State{Boxes: s.Boxes, Spool: append(slices.Clone(s.Spool), x)}
		done(t, s, x, next)
		s = next
	}
	fails(t, api.ErrFull, s, spool("a@b", ""))
	fails(t, api.ErrFull, s, s.Spool[0])
	// What waits to go out has no Quota.
	full := stateOf(boxOf("a", 4, mails(3, api.MaxText)...))
	done(t, full, spool("a@b", text(api.MaxText)), api.State{Boxes: full.Boxes, Spool: []api.Entry{spool("a@b", text(api.MaxText))}})
	done(t, api.State{}, spool("a@b", ""), api.State{Spool: []api.Entry{spool("a@b", "")}})
}

// P9.4: there is no box of that name.
func TestNoBox(t *testing.T) {
	full := boxOf("full", api.MaxUid+1, mails(api.MaxMails, 0)...)
	for _, s := range []api.State{{}, stateOf(boxOf("A", 1)), stateOf(boxOf("aa", 2, mail(1, 0, "x")), full), stateOf(boxOf("b", 4, mails(3, api.MaxText)...))} {
		for _, x := range []api.Entry{add("a", 0, "x"), expunge("a"), flag("a", 1, 0), copied("a", 1, "b"), copied("a", 1, "a"), copied("a", 1, "full")} {
			fails(t, api.ErrNone, s, x)
		}
	}
}

// P9.4: an Append: a mail behind the others, with the box's Next as Uid.
func TestAppend(t *testing.T) {
	b := boxOf("b", 9, mail(3, 1, "x"), mail(5, 8, "y"))
	waits := []api.Entry{spool("a@b", "x")}
	for n := range 32 {
		s := api.State{Boxes: []api.Box{boxOf("a", 1), b, boxOf("c", 4, mail(1, 0, "z"))}, Spool: waits}
		done(t, s, add("b", n, text(n)), api.State{Boxes: []api.Box{s.Boxes[0], boxOf("b", 10, b.Mails[0], b.Mails[1], mail(9, n, text(n))), s.Boxes[2]}, Spool: waits})
		done(t, s, add("a", n, text(n)), api.State{Boxes: []api.Box{boxOf("a", 2, mail(1, n, text(n))), b, s.Boxes[2]}, Spool: waits})
		done(t, s, add("c", n, "z"), api.State{Boxes: []api.Box{s.Boxes[0], b, boxOf("c", 5, mail(1, 0, "z"), mail(4, n, "z"))}, Spool: waits})
	}
}

// fullTo a box: whatever would be appended to it is refused.
func fullTo(t *testing.T, s api.State, name string, text string) {
	t.Helper()
	fails(t, api.ErrFull, s, add(name, 0, text))
}

// P9.4: an Append: the box has MaxMails mails, or its Next is above MaxUid.
func TestAppendFull(t *testing.T) {
	most := mails(api.MaxMails, 0)
	last := api.MaxMails - 1
	done(t, stateOf(boxOf("a", 99, most[:last]...)), add("a", 3, "x"), stateOf(boxOf("a", 100, append(slices.Clone(most[:last]), mail(99, 3, "x"))...)))
	fullTo(t, stateOf(boxOf("a", 99, most...)), "a", "")
	fullTo(t, stateOf(boxOf("b", 1), boxOf("a", 99, most...)), "a", "x")
	done(t, stateOf(boxOf("a", 99, most...), boxOf("b", 1)), add("b", 0, ""), stateOf(boxOf("a", 99, most...), boxOf("b", 2, mail(1, 0, ""))))
	done(t, stateOf(boxOf("a", api.MaxUid)), add("a", 0, "x"), stateOf(boxOf("a", api.MaxUid+1, mail(api.MaxUid, 0, "x"))))
	fullTo(t, stateOf(boxOf("a", api.MaxUid+1)), "a", "")
	fullTo(t, stateOf(boxOf("a", api.MaxUid+1, mail(api.MaxUid, 0, "x"))), "a", "")
	done(t, stateOf(boxOf("a", api.MaxUid+1), boxOf("b", 1)), add("b", 0, ""), stateOf(boxOf("a", api.MaxUid+1), boxOf("b", 2, mail(1, 0, ""))))
	refused(t, api.ErrFull, stateOf(boxOf("a", api.MaxUid)), add("a", 0, "x"), add("a", 0, "x"))
}

// P9.4: an Append: all mails, of all boxes, would have more than Quota bytes.
func TestAppendQuota(t *testing.T) {
	for _, rest := range []int{0, 1, 2, 700, 2000} {
		s := stateOf(boxOf("a", 4, mails(2, api.MaxText)...), boxOf("b", 2, mail(1, 8, text(api.MaxText-rest))), boxOf("c", 1))
		done(t, s, add("c", 0, text(rest)), stateOf(s.Boxes[0], s.Boxes[1], boxOf("c", 2, mail(1, 0, text(rest)))))
		done(t, s, add("c", 0, ""), stateOf(s.Boxes[0], s.Boxes[1], boxOf("c", 2, mail(1, 0, ""))))
		if rest < api.MaxText {
			for _, to := range []string{"a", "b", "c"} {
				fullTo(t, s, to, text(rest+1))
				fullTo(t, s, to, text(api.MaxText))
			}
		}
		// What goes makes room.
		all(t, s, stateOf(s.Boxes[0], boxOf("b", 2), boxOf("c", 2, mail(1, 0, text(api.MaxText)))), expunge("b"), add("c", 0, text(api.MaxText)))
	}
}

// P9.4: an Expunge: what is Deleted goes, with whatever other Flags it has; Next stays.
func TestExpunge(t *testing.T) {
	var every, left []api.Mail
	for n := range api.MaxMails {
		m := mail(2*n+1, n, text(n))
		if every = append(every, m); n&api.Deleted == 0 {
			left = append(left, m)
		}
	}
	other := boxOf("b", 9, mail(1, api.Deleted, "x"))
	waits := []api.Entry{spool("a@b", "x")}
	s := api.State{Boxes: []api.Box{other, boxOf("a", 77, every...), boxOf("c", 1)}, Spool: waits}
	done(t, s, expunge("a"), api.State{Boxes: []api.Box{other, boxOf("a", 77, left...), boxOf("c", 1)}, Spool: waits})
	done(t, s, expunge("c"), s)
	done(t, s, expunge("b"), api.State{Boxes: []api.Box{boxOf("b", 9), s.Boxes[1], s.Boxes[2]}, Spool: waits})
	gone := mails(api.MaxMails, 3)
	for i := range gone {
		gone[i].Flags = api.Deleted | api.Seen
	}
	done(t, stateOf(boxOf("a", 40, gone...)), expunge("a"), stateOf(boxOf("a", 40)))
	done(t, stateOf(boxOf("a", 5, mail(1, 8, "x"), mail(2, 0, "y"), mail(4, 24, "z"))), expunge("a"), stateOf(boxOf("a", 5, mail(2, 0, "y"))))
}

// P9.4: a Flag: the mail has just these Flags.
func TestFlag(t *testing.T) {
	b := boxOf("b", 9, mail(3, 1, "x"), mail(5, 8, "y"), mail(8, 31, "z"))
	waits := []api.Entry{spool("a@b", "x")}
	s := api.State{Boxes: []api.Box{boxOf("a", 9, mail(5, 2, "o")), b}, Spool: waits}
	for n := range 32 {
		for i, m := range b.Mails {
			l := slices.Clone(b.Mails)
			l[i] = mail(m.Uid, n, m.Text)
			done(t, s, flag("b", m.Uid, n), api.State{Boxes: []api.Box{s.Boxes[0], boxOf("b", 9, l...)}, Spool: waits})
		}
	}
	for _, uid := range []int{0, 1, 2, 4, 6, 7, 9, 10, api.MaxUid} {
		fails(t, api.ErrNone, s, flag("b", uid, 0))
	}
	fails(t, api.ErrNone, s, flag("a", 3, 0)) // it is in another box
	// It is no new mail: there need be no room.
	full := stateOf(boxOf("a", api.MaxUid+1, mails(api.MaxMails, 200)...))
	want := mails(api.MaxMails, 200)
	want[29].Flags = 31
	done(t, full, flag("a", 30, 31), stateOf(boxOf("a", api.MaxUid+1, want...)))
}

// P9.4: a Copy: as if the mail were appended to the box To, be it the same one.
func TestCopy(t *testing.T) {
	b := boxOf("b", 9, mail(3, 1, "x"), mail(5, 24, "yy"), mail(8, 31, ""))
	waits := []api.Entry{spool("a@b", "x")}
	s := api.State{Boxes: []api.Box{boxOf("a", 90, mail(5, 2, "o")), b, boxOf("c", 1)}, Spool: waits}
	for _, m := range b.Mails {
		copied90, copied9, copied1 := m, m, m
		copied90.Uid, copied9.Uid, copied1.Uid = 90, 9, 1
		done(t, s, copied("b", m.Uid, "a"), api.State{Boxes: []api.Box{boxOf("a", 91, mail(5, 2, "o"), copied90), b, s.Boxes[2]}, Spool: waits})
		done(t, s, copied("b", m.Uid, "b"), api.State{Boxes: []api.Box{s.Boxes[0], boxOf("b", 10, append(slices.Clone(b.Mails), copied9)...), s.Boxes[2]}, Spool: waits})
		done(t, s, copied("b", m.Uid, "c"), api.State{Boxes: []api.Box{s.Boxes[0], b, boxOf("c", 2, copied1)}, Spool: waits})
	}
	for _, uid := range []int{0, 1, 2, 4, 6, 7, 9, 10, api.MaxUid} {
		for _, to := range []string{"a", "b", "c", "none"} {
			fails(t, api.ErrNone, s, copied("b", uid, to))
		}
	}
	for _, uid := range []int{3, 5, 8} {
		fails(t, api.ErrNone, s, copied("b", uid, "none"))
		fails(t, api.ErrNone, s, copied("b", uid, "B"))
	}
}

// P9.4: a Copy: there is no room; but what there is not is told first.
func TestCopyFull(t *testing.T) {
	most := mails(api.MaxMails, 0)
	last := api.MaxMails - 1
	from := boxOf("b", 3, mail(1, 5, "x"), mail(2, 0, text(api.MaxText)))
	for _, full := range []api.Box{boxOf("a", 99, most...), boxOf("a", api.MaxUid+1), boxOf("a", api.MaxUid+1, most...)} {
		s := stateOf(from, full)
		fails(t, api.ErrFull, s, copied("b", 1, "a"))
		fails(t, api.ErrFull, s, copied("b", 2, "a"))
		fails(t, api.ErrNone, s, copied("b", 3, "a"))
		done(t, s, copied("b", 1, "b"), stateOf(boxOf("b", 4, from.Mails[0], from.Mails[1], mail(3, 5, "x")), full))
	}
	fails(t, api.ErrFull, stateOf(boxOf("a", 99, most...)), copied("a", 30, "a"))
	done(t, stateOf(from, boxOf("a", 99, most[:last]...)), copied("b", 1, "a"), stateOf(from, boxOf("a", 100, append(slices.Clone(most[:last]), mail(99, 5, "x"))...)))
	done(t, stateOf(from, boxOf("a", api.MaxUid)), copied("b", 1, "a"), stateOf(from, boxOf("a", api.MaxUid+1, mail(api.MaxUid, 5, "x"))))
	// The box that a mail comes from may have no room.
	out := boxOf("o", api.MaxUid+1, append(slices.Clone(most[:last]), mail(99, 5, "x"))...)
	done(t, stateOf(out, boxOf("a", 1)), copied("o", 99, "a"), stateOf(out, boxOf("a", 2, mail(1, 5, "x"))))
}

// P9.4: a Copy: the Quota is that of all boxes together.
func TestCopyQuota(t *testing.T) {
	for _, rest := range []int{0, 1, 600} {
		small, large := mail(1, 1, text(rest)), mail(2, 2, text(rest+1))
		s := stateOf(boxOf("b", 3, mails(2, api.MaxText)...), boxOf("a", 4, small, large, mail(3, 3, text(api.MaxText-3*rest-1))))
		small.Uid = 3
		done(t, s, copied("a", 1, "b"), stateOf(boxOf("b", 4, append(mails(2, api.MaxText), small)...), s.Boxes[1]))
		small.Uid = 4
		done(t, s, copied("a", 1, "a"), stateOf(s.Boxes[0], boxOf("a", 5, append(slices.Clone(s.Boxes[1].Mails), small)...)))
		for _, to := range []string{"a", "b"} {
			fails(t, api.ErrFull, s, copied("a", 2, to))
			fails(t, api.ErrFull, s, copied("b", 1, to))
			refused(t, api.ErrNone, s, copied("b", 9, to))
		}
		refused(t, api.ErrNone, s, copied("b", 1, "none"))
	}
}
