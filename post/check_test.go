package post_test

import (
	"strings"
	"testing"

	"postroom/api"
	"postroom/post"
)

// refuses an act: Check does, and Run of a script with it.
func refuses(t *testing.T, a api.Act, want api.Errno) {
	t.Helper()
	if e := post.Check(a); e != want {
		t.Errorf("Check(%s) = %d; want %d", short(a), e, want)
	}
	for _, l := range [][]api.Act{{a}, {sync, crash(0), a, start}, {letter(0, "s: t", "ann"), sync, a, {Kind: 9}}} {
		o, e := post.Run(three(), l)
		if want == api.OK {
			if l[len(l)-1].Kind != 9 && e != api.OK || l[len(l)-1].Kind == 9 && e != api.ErrKind {
				t.Errorf("Run with %s = %d", short(a), e)
			}
		} else if e != want || text(o) != text(api.Outcome{}) {
			t.Errorf("Run with %s = %s, %d; want nothing, %d", short(a), short(o), e, want)
		}
	}
}

// entry that has a bit of everything: an Order may have it, whatever becomes of it.
var entry = api.Entry{Kind: 77, Box: "b", Uid: -1, Flags: 1 << 40, To: "t", Text: strings.Repeat("x", api.MaxText+1)}

// numbers that are no small ones.
var numbers = []int{-1, -2, 1 << 32, -1 << 63, 1<<63 - 1}

// P13.1: acts that may be.
func TestActs(t *testing.T) {
	for _, a := range []api.Act{
		sync, start, raw(0, ""), raw(1, "x"), raw(api.MaxConns-1, strings.Repeat("x", api.MaxHeld)), raw(2, "\x00\xff\r\n"), crash(0), crash(1), crash(api.MaxBytes),
		order(0, api.Entry{}), order(1, create("a")), order(api.MaxUsers-1, entry), order(0, api.Entry{Kind: api.Spool, To: "a@b"}), order(0, api.Entry{Kind: -1}),
	} {
		refuses(t, a, api.OK)
	}
}

// P13.1: there is no such Kind, whatever else it has.
func TestKinds(t *testing.T) {
	for _, kind := range append(numbers, 0, 6, 7, 256, 257) {
		refuses(t, api.Act{Kind: kind}, api.ErrKind)
		refuses(t, api.Act{Kind: kind, Conn: -1, User: -1, Keep: -1, Data: strings.Repeat("x", api.MaxHeld+1), Entry: entry}, api.ErrKind)
	}
}

// P13.1: numbers outside their bounds, ahead of all else.
func TestBounds(t *testing.T) {
	long := strings.Repeat("x", api.MaxHeld+1)
	for _, n := range append(numbers, api.MaxConns, api.MaxConns+1, api.MaxBytes+1) {
		refuses(t, raw(n, "x"), api.ErrRange)
		refuses(t, api.Act{Kind: api.Feed, Conn: n, Data: long, Keep: 1}, api.ErrRange)
	}
	for _, n := range append(numbers, api.MaxBytes+1) {
		refuses(t, crash(n), api.ErrRange)
		refuses(t, api.Act{Kind: api.Crash, Keep: n, Data: long, Conn: 1}, api.ErrRange)
	}
	for _, n := range append(numbers, api.MaxUsers, api.MaxUsers+1) {
		refuses(t, order(n, create("a")), api.ErrRange)
		refuses(t, api.Act{Kind: api.Order, User: n, Entry: entry, Data: long}, api.ErrRange)
	}
}

// P13.1: Data of a Feed that are too long, ahead of what it has not.
func TestSizes(t *testing.T) {
	for _, n := range []int{api.MaxHeld + 1, api.MaxHeld + 2, 1 << 20} {
		refuses(t, raw(0, strings.Repeat("x", n)), api.ErrSize)
		refuses(t, api.Act{Kind: api.Feed, Data: strings.Repeat("\r\n", n), Keep: -1}, api.ErrSize)
		// Those of others are just what these have not.
		for _, kind := range []int{api.Sync, api.Crash, api.Start, api.Order} {
			refuses(t, api.Act{Kind: kind, Data: strings.Repeat("x", n)}, api.ErrForm)
		}
	}
}

// P13.1: each Kind with each thing, in bounds or not: it may have just what it has.
func TestParts(t *testing.T) {
	has := map[int]string{api.Feed: "conn data", api.Sync: "", api.Crash: "keep", api.Start: "", api.Order: "user entry"}
	for kind, parts := range has {
		for name, set := range map[string]func(a *api.Act){
			"conn":  func(a *api.Act) { a.Conn = 1 },
			"user":  func(a *api.Act) { a.User = 1 },
			"keep":  func(a *api.Act) { a.Keep = 1 },
			"data":  func(a *api.Act) { a.Data = "x" },
			"entry": func(a *api.Act) { a.Entry = create("a") },
		} {
			a := api.Act{Kind: kind}
			set(&a)
			if strings.Contains(parts, name) {
				refuses(t, a, api.OK)
			} else {
				refuses(t, a, api.ErrForm)
			}
		}
		if !strings.Contains(parts, "entry") {
			for _, x := range []api.Entry{{Kind: 1}, {Box: "a"}, {Uid: 1}, {Flags: 1}, {To: "a"}, {Text: "a"}, {Flags: -1}} {
				refuses(t, api.Act{Kind: kind, Entry: x}, api.ErrForm)
			}
		}
		for _, n := range append(numbers, api.MaxBytes+1) {
			for name, a := range map[string]api.Act{"conn": {Kind: kind, Conn: n}, "user": {Kind: kind, User: n}, "keep": {Kind: kind, Keep: n}} {
				if !strings.Contains(parts, name) {
					refuses(t, a, api.ErrForm)
				}
			}
		}
	}
}
