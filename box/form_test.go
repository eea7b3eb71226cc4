package box_test

import (
	"strings"
	"testing"

	"postroom/api"
	"postroom/box"
)

// form: Form answers this; if the entry is refused, All refuses it so.
func form(t *testing.T, want api.Errno, x api.Entry) {
	t.Helper()
	if e := box.Form(x); e != want {
		t.Errorf("Form(%s) = %d; want %d", short(x), e, want)
	}
	if want != api.OK {
		fails(t, want, api.State{}, x)
	}
}

// Plain entries of all kinds.
var plain = []api.Entry{create("a"), add("a", 3, "x"), flag("a", 2, 1), expunge("a"), copied("a", 2, "b"), spool("a@b", "x")}

// has tells which parts an entry of a kind has, of: Box, Uid, Flags, To, Text.
func has(kind int) [5]bool {
	return map[int][5]bool{
		api.Create:  {true, false, false, false, false},
		api.Append:  {true, false, true, false, true},
		api.Flag:    {true, true, true, false, false},
		api.Expunge: {true, false, false, false, false},
		api.Copy:    {true, true, false, true, false},
		api.Spool:   {false, false, false, true, true},
	}[kind]
}

// P9.3: entries of each kind, with all that they have, and with as little.
func TestFormOfKinds(t *testing.T) {
	for i, x := range plain {
		if x.Kind != i+1 {
			t.Fatalf("%v is not of the kind %d", x, i+1)
		}
		form(t, api.OK, x)
	}
	for _, x := range []api.Entry{add("a", 0, ""), flag("a", 0, 0), copied("a", 0, "a"), spool("a@b", ""), create("!~"), copied("INBOX", api.MaxUid, text(api.MaxName))} {
		form(t, api.OK, x)
	}
}

// P9.3: there is no such Kind: that is told first.
func TestFormKind(t *testing.T) {
	for _, kind := range append([]int{0, -1, -2, 7, 8, 100}, far...) {
		form(t, api.ErrKind, api.Entry{Kind: kind})
		for _, x := range plain {
			x.Kind = kind
			form(t, api.ErrKind, x)
		}
		form(t, api.ErrKind, api.Entry{Kind: kind, Box: text(100), Uid: -1, Flags: -1, To: " ", Text: text(api.MaxText + 1)})
	}
}

// P9.3: what an entry has, though its Kind has not.
func TestFormOfOthers(t *testing.T) {
	extra := [5]func(x *api.Entry, odd bool){
		func(x *api.Entry, odd bool) { x.Box = pick(odd, " ", "a") },
		func(x *api.Entry, odd bool) { x.Uid = pick(odd, -1, 1) },
		func(x *api.Entry, odd bool) { x.Flags = pick(odd, 32, 1) },
		func(x *api.Entry, odd bool) { x.To = pick(odd, text(200), "a@b") },
		func(x *api.Entry, odd bool) { x.Text = pick(odd, text(api.MaxText+1), "\x00") },
	}
	for _, x := range plain {
		for set := 1; set < 32; set++ {
			y, z, own := x, x, true
			for i, put := range extra {
				if set>>i&1 == 1 && !has(x.Kind)[i] {
					put(&y, false)
					put(&z, true)
					own = false
				}
			}
			if own {
				continue
			}
			form(t, api.ErrForm, y)
			form(t, api.ErrForm, z)
			// It is told ahead of what is wrong with that which the Kind has.
			for i, put := range extra {
				if has(x.Kind)[i] {
					put(&y, true)
				}
			}
			form(t, api.ErrForm, y)
		}
	}
}

// pick the first, or the second.
func pick[E any](first bool, a, b E) E {
	if first {
		return a
	}
	return b
}

// P9.3: Flags and Uids.
func TestFormRange(t *testing.T) {
	for n := range 32 {
		form(t, api.OK, add("a", n, "x"))
		form(t, api.OK, flag("a", 1, n))
	}
	for _, n := range append([]int{-1, -2, -32, 32, 33, 63, 64}, far...) {
		form(t, api.ErrRange, add("a", n, "x"))
		form(t, api.ErrRange, flag("a", 1, n))
		form(t, api.ErrRange, add("", n, text(api.MaxText+1)))
		form(t, api.ErrRange, add(" ", n, ""))
		form(t, api.ErrRange, flag(" ", -1, n))
	}
	for _, n := range []int{0, 1, 2, 31, 32, api.MaxUid - 1, api.MaxUid} {
		form(t, api.OK, flag("a", n, 0))
		form(t, api.OK, copied("a", n, "b"))
	}
	for _, n := range append([]int{-1, -2, api.MaxUid + 1, api.MaxUid + 2}, far...) {
		form(t, api.ErrRange, flag("a", n, 0))
		form(t, api.ErrRange, copied("a", n, "b"))
		form(t, api.ErrRange, flag("", n, 0))
		form(t, api.ErrRange, copied(" ", n, ""))
	}
}

// P9.3: how long a Text is, which is told ahead of names.
func TestFormText(t *testing.T) {
	for _, n := range []int{0, 1, api.MaxText - 1, api.MaxText} {
		form(t, api.OK, add("a", 0, text(n)))
		form(t, api.OK, spool("a@b", text(n)))
	}
	for _, n := range []int{api.MaxText + 1, api.MaxText + 2, api.Quota + 1, 1 << 20} {
		form(t, api.ErrSize, add("a", 0, text(n)))
		form(t, api.ErrSize, spool("a@b", text(n)))
		form(t, api.ErrSize, add(" ", 0, text(n)))
		form(t, api.ErrSize, spool("a", text(n)))
	}
	form(t, api.OK, add("a", 0, "\x00\xff\r\n"))
}

// P9.3: to whom a Spool goes.
func TestFormSpool(t *testing.T) {
	long := strings.Repeat("a", 49) + "@" + strings.Repeat("b", 50)
	for _, to := range []string{"a@b", "a.b@c.d", " a@b ", "\ta@b", "<a@b>", "Ann <a@b>", `"A, B" <a@b>`, long, "a@b" + strings.Repeat(" ", api.MaxPattern-3)} {
		form(t, api.OK, spool(to, "x"))
	}
	for _, to := range []string{"", " ", "a", "a@", "@b", "a@b,", ",a@b", "a@b, c@d", "a@b,c@d", "a@b c@d", "a..b@c", "<a@b", "a@b>", "Ann a@b", "ä@b", "a@b\x00",
		long + " ", " " + long, long + "b", "<" + long + ">", "a@b" + strings.Repeat(" ", api.MaxPattern-2), strings.Repeat("a@b,", 21) + "a@b", strings.Repeat("a@b,", 25),
		"a@b" + strings.Repeat(" ", api.MaxText), strings.Repeat(",", 1<<20)} {
		form(t, api.ErrForm, spool(to, "x"))
	}
}

// P9.3: what is no name of a box, of all kinds but a Spool.
func TestFormNames(t *testing.T) {
	named := func(s string) []api.Entry {
		return []api.Entry{create(s), add(s, 3, "x"), flag(s, 2, 1), expunge(s), copied(s, 2, "b")}
	}
	each := func(want api.Errno, s string) {
		t.Helper()
		for _, x := range append(named(s), copied("a", 2, s)) {
			form(t, want, x)
		}
	}
	for c := range 256 {
		want := api.ErrForm
		if 33 <= c && c <= 126 {
			want = api.OK
		}
		b := string([]byte{byte(c)})
		each(want, b)
		each(want, "x"+b)
		each(want, text(api.MaxName-1)+b)
		each(api.ErrSize, text(api.MaxName)+b)
	}
	each(api.ErrSize, "")
	each(api.ErrSize, strings.Repeat(" ", api.MaxName+1))
	each(api.ErrSize, text(1<<20))
	// Of a Copy the Box first, then To.
	form(t, api.ErrSize, copied("", 1, " "))
	form(t, api.ErrForm, copied(" ", 1, ""))
	form(t, api.ErrSize, copied(text(api.MaxName+1), 1, " "))
}
