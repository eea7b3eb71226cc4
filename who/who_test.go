package who_test

import (
	"slices"
	"strings"
	"testing"

	"postroom/api"
	"postroom/who"
)

// marks that may be in an atom, as P3.1 tells them by their numbers.
var marks = []byte{33, 35, 36, 37, 38, 39, 42, 43, 45, 47, 61, 63, 94, 95, 96, 123, 124, 125, 126}

// address of its two parts.
func address(local, domain string) api.Address { return api.Address{Local: local, Domain: domain} }

// may: Check takes an address, Part tells its parts, and what they are put together of is a list of one.
func may(t *testing.T, local, domain string) {
	t.Helper()
	a := address(local, domain)
	if e := who.Check(a); e != api.OK {
		t.Errorf("Check(%.60q) = %d; want 0", a, e)
	}
	for _, c := range []struct {
		kind int
		want string
	}{{api.All, local + "@" + domain}, {api.Local, local}, {api.Domain, domain}} {
		if got, e := who.Part(c.kind, a); got != c.want || e != api.OK {
			t.Errorf("Part(%d, %.60q) = %.60q, %d; want %.60q, 0", c.kind, a, got, e, c.want)
		}
	}
	lists(t, local+"@"+domain, a)
}

// mayNot: Check answers this error, and Part does so with it, and with nothing else, of every kind.
func mayNot(t *testing.T, local, domain string, want api.Errno) {
	t.Helper()
	a := address(local, domain)
	if e := who.Check(a); e != want {
		t.Errorf("Check(%.60q) = %d; want %d", a, e, want)
	}
	for _, kind := range []int{api.All, api.Local, api.Domain, 0, 4} {
		if got, e := who.Part(kind, a); got != "" || e != want {
			t.Errorf("Part(%d, %.60q) = %.60q, %d; want nothing, %d", kind, a, got, e, want)
		}
	}
}

// lists: List answers these addresses.
func lists(t *testing.T, s string, want ...api.Address) {
	t.Helper()
	if got, e := who.List(s); !slices.Equal(got, want) || e != api.OK {
		t.Errorf("List(%.60q) = %.60q, %d; want %.60q, 0", s, got, e, want)
	}
}

// refuses: List answers this error, and no addresses.
func refuses(t *testing.T, s string, want api.Errno) {
	t.Helper()
	if got, e := who.List(s); len(got) != 0 || e != want {
		t.Errorf("List(%.60q) = %.60q, %d; want nothing, %d", s, got, e, want)
	}
}

// repeated texts with a comma between each two.
func repeated(s string, n int) string {
	return strings.Repeat(s+",", n-1) + s
}

// P3.1, P3.2: each byte, alone and within an atom.
func TestAtomBytes(t *testing.T) {
	for i := range 256 {
		c := byte(i)
		isOne := 'a' <= c && c <= 'z' || 'A' <= c && c <= 'Z' || '0' <= c && c <= '9' || slices.Contains(marks, c)
		for _, part := range []string{string([]byte{c}), string([]byte{'x', c, 'x'}), string([]byte{c, '.', c})} {
			if isOne {
				may(t, part, "d")
				may(t, "l", part)
			} else if c != '.' || part != "x.x" {
				mayNot(t, part, "d", api.ErrForm)
				mayNot(t, "l", part, api.ErrForm)
			}
		}
	}
}

// P3.1, P3.2: atoms and dots.
func TestDotted(t *testing.T) {
	for _, part := range []string{"a", "a.b", "a.b.c", "ab.cd", "-", "1.2", "!#$%&'*+-/=?^_`{|}~"} {
		may(t, part, "d")
		may(t, "l", part)
	}
	for _, part := range []string{"", ".", "..", ".a", "a.", "a..b", "a.b.", "a. b", "a@b", "a\x00", "a\r\n", "ä", "a\xff", `"a"`, `a\b`, "<a>", "a,b", "(a)", "a:b", "a;b", "[a]"} {
		mayNot(t, part, "d", api.ErrForm)
		mayNot(t, "l", part, api.ErrForm)
		mayNot(t, part, part, api.ErrForm)
	}
}

// P3.2: both and one byte more.
func TestSizes(t *testing.T) {
	for _, n := range []int{1, 2, 50, api.MaxPattern - 3, api.MaxPattern - 2} {
		may(t, strings.Repeat("l", n), strings.Repeat("d", api.MaxPattern-1-n))
		mayNot(t, strings.Repeat("l", n), strings.Repeat("d", api.MaxPattern-n), api.ErrSize)
		mayNot(t, strings.Repeat("l", n+1), strings.Repeat("d", api.MaxPattern-1-n), api.ErrSize)
	}
	long := strings.Repeat("x", 1<<20)
	mayNot(t, long, "d", api.ErrSize)
	mayNot(t, "l", long, api.ErrSize)
	mayNot(t, long, "", api.ErrForm) // the form is told ahead of the size
	mayNot(t, long+".", "d", api.ErrForm)
	mayNot(t, "", long, api.ErrForm)
	mayNot(t, strings.Repeat(".", 1<<20), "d", api.ErrForm)
	mayNot(t, strings.Repeat("a.", 1<<20)+"a", "d", api.ErrSize)
}

// P3.3: there is no such kind.
func TestKinds(t *testing.T) {
	for _, kind := range []int{0, 4, 5, -1, -3, 1 << 40, -1 << 63, 1<<63 - 1} {
		if got, e := who.Part(kind, address("a", "b")); got != "" || e != api.ErrKind {
			t.Errorf("Part(%d) = %q, %d; want nothing, %d", kind, got, e, api.ErrKind)
		}
	}
}

// P3.4: lists of one or more.
func TestLists(t *testing.T) {
	ab, cd := address("a", "b"), address("c", "d")
	for _, s := range []string{
		"a@b", " a@b", "a@b\t", "\t a@b \t", "<a@b>", " <a@b> ", "Ann<a@b>", "Ann <a@b>", "Ann\t \t<a@b>", "Ann B. Cee <a@b>",
		". <a@b>", "..<a@b>", "a..b <a@b>", "x=y {z} <a@b>",
		`""<a@b>`, `"q"<a@b>`, ` "q" <a@b>`, `"q"r"s" <a@b>`, `r"s" <a@b>`, `"q""r" <a@b>`, `"q"  "r"<a@b>`, `"" "" <a@b>`,
		`"x, y" <a@b>`, `"<c@d>" <a@b>`, `"c@d,"<a@b>`, `"\"" <a@b>`, `"\\" <a@b>`, `"\\\"" <a@b>`, `"a\"b\\c" <a@b>`,
		"\"\x00\r\n\xff\" <a@b>",
	} {
		lists(t, s, ab)
		lists(t, s+","+s, ab, ab)
		lists(t, s+", c@d", ab, cd)
		lists(t, "c@d ,\t"+s, cd, ab)
		lists(t, "W <c@d>,"+s+",c@d", cd, ab, cd)
	}
	lists(t, "Ann <a@b.c>, d@e", address("a", "b.c"), address("d", "e"))
	lists(t, "a.b@c.d,<e.f@g.h>", address("a.b", "c.d"), address("e.f", "g.h"))
	lists(t, "A@B", address("A", "B"))
}

// P3.4: what is no list.
func TestNoLists(t *testing.T) {
	for _, s := range []string{
		"", " ", "\t", ",", "a", "a@", "@b", "@", "Ann", `"q"`, "<", ">", "<>", "<a>", "<@b>", "<a@>", "<a@b", "a@b>",
		"a @b", "a@ b", "a @ b", "< a@b>", "<a@b >", "<a @b>", "<a@ b>", "<\ta@b>",
		"a@b@c", "<a@b@c>", "a b@c", "Ann a@b", `"q"a@b`, `"q"@b`, `a@"q"`, `<"q"@b>`, "a@b <c@d>", "a@b<c@d>", "<a@b><c@d>", "<a@b> <c@d>",
		"<a@b> Ann", "<a@b>Ann", `<a@b>"q"`, "<<a@b>>", "<W <a@b>>", "<a@b,c@d>",
		"a..b@c", ".a@b", "a.@b", "a@.b", "a@b.", "<a.@b>", "<a@b.>", "..@b",
		`"`, `"q`, `"q <a@b>`, `q" <a@b>`, `"\" <a@b>`, `"\`, `"\q" <a@b>`, `"a\ b" <a@b>`, `\" <a@b>`, `a\b <a@b>`, `"q\\\" <a@b>`,
		"a@b;", "a@b\r\n", "\r\na@b", "a@b\n c@d", "a@b\x00", "(x) a@b", "x: a@b", "[x] <a@b>", "ä <a@b>", "a@b\v",
	} {
		refuses(t, s, api.ErrForm)
		refuses(t, "c@d,"+s, api.ErrForm)
		refuses(t, s+",c@d", api.ErrForm)
	}
	for _, s := range []string{"a@b c@d", "a@b;c@d", "a@b,,c@d", "a@b, ,c@d", ",a@b", "a@b,", "a@b, ", " ,a@b"} {
		refuses(t, s, api.ErrForm)
	}
}

// P3.4: each byte where blanks may stand, and where none may.
func TestBlanks(t *testing.T) {
	ab, cd := address("a", "b"), address("c", "d")
	for i := range 256 {
		c := string([]byte{byte(i)})
		for _, form := range []string{"%<a@b>,c@d", "W%<a@b>,c@d", "<a@b>%,c@d", "<a@b>,%<c@d>", "<a@b>,<c@d>%", `<a@b>,"q"%"r"<c@d>`} {
			s := strings.Replace(form, "%", c, 1)
			word := c == "." || who.Check(address(c, "d")) == api.OK
			switch {
			case c == " " || c == "\t" || word && !strings.Contains(form, ">%"):
				lists(t, s, ab, cd)
			default:
				refuses(t, s, api.ErrForm)
			}
		}
		for _, form := range []string{"<%a@b>", "<a%@b>", "<a@%b>", "<a@b%>"} {
			if who.Check(address("a"+c+"a", "b")) != api.OK {
				refuses(t, strings.Replace(form, "%", c, 1), api.ErrForm)
			}
		}
	}
}

// P3.4: an address that may not be, for its size, too, makes no list; words may be longer.
func TestListOfGreatAddresses(t *testing.T) {
	local := strings.Repeat("l", api.MaxPattern-2)
	for _, form := range []string{"%@d", "<%@d>", "W <%@d>", "a@b, %@d", "%@d, a@b"} {
		if _, e := who.List(strings.Replace(form, "%", local, 1)); e != api.OK {
			t.Errorf("List with %d bytes in %s: %d; want 0", len(local), form, e)
		}
		refuses(t, strings.Replace(form, "%", local+"l", 1), api.ErrForm)
	}
	lists(t, strings.Repeat("w", 1500)+` "`+strings.Repeat("q", 400)+`" <a@b>`, address("a", "b"))
}

// P3.4: the list's size comes ahead of its form, and that ahead of the number of addresses.
func TestListLimits(t *testing.T) {
	room := strings.Repeat(" ", api.MaxText-3)
	lists(t, room+"a@b", address("a", "b"))
	refuses(t, room+"a@b ", api.ErrSize)
	refuses(t, room+" a@b", api.ErrSize)
	refuses(t, strings.Repeat(",", api.MaxText), api.ErrForm)
	refuses(t, strings.Repeat(",", api.MaxText+1), api.ErrSize)
	refuses(t, strings.Repeat(`"`, 1<<20), api.ErrSize)

	var want []api.Address
	for range api.MaxAddrs {
		want = append(want, address("a", "b"))
	}
	lists(t, repeated("a@b", api.MaxAddrs), want...)
	for _, n := range []int{api.MaxAddrs + 1, api.MaxAddrs + 2, 400} {
		all := repeated("a@b", n)
		refuses(t, all, api.ErrFull)
		refuses(t, all+",", api.ErrForm)
		refuses(t, all+",<a@b", api.ErrForm)
	}
	refuses(t, repeated("a@b", 500), api.ErrFull)
	refuses(t, repeated("a@b", 501), api.ErrSize)
}

// Two answers share no memory, not even spare room.
func TestListsAreNew(t *testing.T) {
	s := "a@b,c@d,e@f"
	first, _ := who.List(s)
	second, _ := who.List(s)
	first = append(first, address("x", "y"))
	first[0] = address("x", "y")
	second = append(second, address("z", "z"))
	if second[0] != address("a", "b") || first[3] != address("x", "y") {
		t.Errorf("two answers of List share memory: %v, %v", first, second)
	}
}

// cutOutside: a text cut at a byte, where that is not quoted; with false, if a quoted word is not in form.
func cutOutside(s string, at byte) ([]string, bool) {
	var l []string
	from, quoted := 0, false
	for i := 0; i < len(s); i++ {
		switch {
		case quoted && s[i] == '\\':
			if i++; i == len(s) || s[i] != '\\' && s[i] != '"' {
				return nil, false
			}
		case s[i] == '"':
			quoted = !quoted
		case s[i] == at && !quoted:
			l = append(l, s[from:i])
			from = i + 1
		}
	}
	return append(l, s[from:]), !quoted
}

// byTheWords: another way to read a list of the bytes `a.@<>", \`: it is cut at its commas, and each address at its `<`.
func byTheWords(s string) []api.Address {
	pieces, whole := cutOutside(s, ',')
	if !whole {
		return nil
	}
	var l []api.Address
	for _, p := range pieces {
		p = strings.Trim(p, " ")
		cut, _ := cutOutside(p, '<')
		plain := cut[0]
		if len(cut) > 1 {
			inner, closed := strings.CutSuffix(cut[1], ">")
			if len(cut) > 2 || !closed || !bare(cut[0]) {
				return nil
			}
			plain = inner
		}
		local, domain, _ := strings.Cut(plain, "@")
		a := address(local, domain)
		if who.Check(a) != api.OK {
			return nil
		}
		l = append(l, a)
	}
	return l
}

// bare tells whether, with the quoted words taken out, there is nothing but words and blanks.
func bare(s string) bool {
	quoted := false
	for i := 0; i < len(s); i++ {
		switch {
		case quoted && s[i] == '\\':
			i++
		case s[i] == '"':
			quoted = !quoted
		case !quoted && strings.IndexByte("a. ", s[i]) < 0:
			return false
		}
	}
	return true
}

// P3.4: all short texts of few bytes.
func TestListsByTheWords(t *testing.T) {
	const bytes = `a.@<>", \`
	for _, ends := range [][2]string{{"", ""}, {"a@", ""}, {"", "<a@a>"}, {"a@a,", ""}, {`"`, `"<a@a>`}} {
		texts := []string{""}
		for range 5 {
			var longer []string
			for _, s := range texts {
				for i := range len(bytes) {
					longer = append(longer, s+bytes[i:i+1])
				}
			}
			for _, s := range longer {
				s = ends[0] + s + ends[1]
				if want := byTheWords(s); want != nil {
					lists(t, s, want...)
				} else {
					refuses(t, s, api.ErrForm)
				}
			}
			texts = longer
		}
	}
}
