package post_test

import (
	"slices"
	"testing"

	"postroom/api"
)

// P13.2: when it is down nothing happens, but that orders are told so, and that it may start.
func TestDown(t *testing.T) {
	before := []api.Act{letter(0, "s: t", "ann"), order(1, create("work")), sync, feed(1, "LHLO a"), crash(0)}
	down := run(t, three(), before...)
	is(t, "up", down.Up, false)
	for _, a := range []api.Act{sync, crash(0), crash(api.MaxBytes), raw(0, ""), feed(0, "NOOP"), feed(1, "MAIL FROM:<joe@z>"), letter(2, "s: t", "ann")} {
		is(t, "nothing happens", run(t, three(), append(before, a, a)...), down)
		// What came while it was down is not held either.
		o := run(t, three(), append(before, a, start, feed(0, "NOOP"), feed(1, "MAIL FROM:<joe@z>"), feed(2, "NOOP"))...)
		is(t, "codes", o.Codes, [][]int{fresh(1, 250, 250), {250, 503}, {250}})
		is(t, "states", o.States, down.States)
	}
	o := run(t, three(), append(before, order(1, create("a")), order(0, api.Entry{}), order(0, written("x")))...)
	orders(t, o, []api.Errno{api.ErrState, api.ErrState}, []api.Errno{api.OK, api.ErrState})
	is(t, "states", o.States, down.States)
	down.Up = true
	is(t, "up", run(t, three(), append(before, start)...), down)
	is(t, "up", run(t, three(), append(before, start, start)...), down)
}

// P13.2: a Start of one that is up changes nothing.
func TestStart(t *testing.T) {
	l := []api.Act{raw(0, letter(0, "s: t", "ann").Data+"NOOP\r\n"), order(1, create("a")), raw(1, "LHLO a\r\nNO")}
	is(t, "started", run(t, three(), append(l, start)...), run(t, three(), l...))
	l = append(l, start, raw(1, "OP\r\nMAIL FROM:<joe@z>\r\n"), sync)
	codes(t, run(t, three(), l...), fresh(1, 250, 250), []int{250, 250, 250})
}

// P13.2: a Crash: connections hold nothing, wait no more, and are Fresh, and nobody is told of what waited.
func TestConnectionsBehindCrashes(t *testing.T) {
	for _, keep := range []int{0, 1, 30, api.MaxBytes} {
		before := []api.Act{raw(0, letter(0, "s: t", "ann").Data+"NOOP\r\nNO"), raw(1, "LHLO a\r\nNO"), feed(2, append(begun("bob"), "s: t", "")...), order(1, create("a")), order(2, written("x")), crash(keep)}
		o := run(t, three(), before...)
		codes(t, o, fresh(1), []int{250}, fresh(1))
		orders(t, o)
		is(t, "waits", o.Waits, 0)
		o = run(t, three(), append(before, start, sync)...)
		codes(t, o, fresh(1), []int{250}, fresh(1))
		orders(t, o)
		o = run(t, three(), append(before, start, raw(0, "OP\r\nMAIL FROM:<joe@z>\r\n"), feed(1, "OP", "MAIL FROM:<joe@z>"), feed(2, ".", "MAIL FROM:<joe@z>"))...)
		codes(t, o, fresh(1, 500, 503), []int{250, 500, 503}, fresh(1, 500, 503))
	}
}

// P13.2: of what waited the batches stay that stand whole within Keep, whatever Keep is; what was synced stays.
func TestKeeps(t *testing.T) {
	const head = 3 + 2 + 5 + 6
	before := []api.Act{order(0, create("work")), letter(0, "s: 0", "ann"), sync}
	waiting := []api.Act{order(0, written("xy")), letter(0, "s: 1", "bob", "ann"), order(1, create("work")), letter(1, "s: 2", "bob")}
	mail := head + len("INBOX") + len(whole("s: 1"))
	ends := []int{0, head + len("INBOX") + 2}
	for _, n := range []int{mail, mail, head + len("work"), mail - 1} {
		ends = append(ends, ends[len(ends)-1]+n)
	}
	total := ends[len(ends)-1]
	states := [][]api.State{
		{boxes(inbox(whole("s: 0")), filled("work")), boxes(inbox())},
		{boxes(inbox(whole("s: 0"), "xy"), filled("work")), boxes(inbox())},
		{boxes(inbox(whole("s: 0"), "xy"), filled("work")), boxes(inbox(whole("s: 1")))},
		{boxes(inbox(whole("s: 0"), "xy", whole("s: 1")), filled("work")), boxes(inbox(whole("s: 1")))},
		{boxes(inbox(whole("s: 0"), "xy", whole("s: 1")), filled("work")), boxes(inbox(whole("s: 1")), filled("work"))},
		{boxes(inbox(whole("s: 0"), "xy", whole("s: 1")), filled("work")), boxes(inbox(whole("s: 1")), filled("work", whole("s: 2")))},
	}
	for keep := range total + 3 {
		left := 0
		for left+1 < len(ends) && ends[left+1] <= keep {
			left++
		}
		l := slices.Concat(before, waiting, []api.Act{crash(keep)})
		o := run(t, three()[:2], l...)
		is(t, "states", o.States, states[left])
		is(t, "waits", o.Waits, 0)
		// A second crash takes nothing of them, and what comes then stands behind them.
		o = run(t, three()[:2], append(l, start, crash(0), start, order(0, written("z")), order(1, create("new")), sync, crash(0))...)
		a, b := states[left][0].Boxes[0], states[left][1].Boxes
		is(t, "mails", len(o.States[0].Boxes[0].Mails), len(a.Mails)+1)
		is(t, "the last mail", o.States[0].Boxes[0].Mails[len(a.Mails)], api.Mail{Uid: a.Next, Text: "z"})
		is(t, "boxes", o.States[1].Boxes, append(slices.Clone(b), filled("new")))
	}
	o := run(t, three()[:2], slices.Concat(before, waiting, []api.Act{crash(api.MaxBytes)})...)
	is(t, "states", o.States, states[len(states)-1])
}

// P13.2: behind a crash MaxWaits batches may wait again, and states are those of what was left.
func TestRoomBehindCrashes(t *testing.T) {
	l := slices.Repeat([]api.Act{order(0, written("x"))}, api.MaxWaits)
	for _, keep := range []int{0, 22, 100, api.MaxBytes} {
		again := append(slices.Concat(l, []api.Act{crash(keep), start}, l), order(0, written("y")))
		o := run(t, three(), again...)
		orders(t, o, []api.Errno{api.ErrFull})
		is(t, "waits", o.Waits, api.MaxWaits)
		is(t, "mails", len(o.States[0].Boxes[0].Mails), min(keep/22, api.MaxWaits))
	}
	// A box that was lost may be created again.
	o := run(t, three(), order(0, create("a")), crash(0), start, order(0, create("a")), crash(api.MaxBytes), start, order(0, create("a")), sync)
	orders(t, o, []api.Errno{api.ErrTwice})
}
