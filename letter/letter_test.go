package letter_test

import (
	"reflect"
	"strings"
	"testing"

	"postroom/api"
	"postroom/letter"
)

// message of a body and of names and values, one behind the other.
func message(body string, namesAndValues ...string) api.Message {
	m := api.Message{Body: body}
	for i := 0; i+1 < len(namesAndValues); i += 2 {
		m.Fields = append(m.Fields, api.Field{Name: namesAndValues[i], Value: namesAndValues[i+1]})
	}
	return m
}

// many fields that are alike.
func many(n int, name, value string) []api.Field {
	var l []api.Field
	for range n {
		l = append(l, api.Field{Name: name, Value: value})
	}
	return l
}

// same tells whether two messages are; a list without elements may be nil or not.
func same(a, b api.Message) bool {
	return a.Body == b.Body && len(a.Fields) == len(b.Fields) && (len(a.Fields) == 0 || reflect.DeepEqual(a.Fields, b.Fields))
}

// shows: Check takes a message, and Show tells it as this text, which is parsed as the message was.
func shows(t *testing.T, m api.Message, want string) {
	t.Helper()
	if e := letter.Check(m); e != api.OK {
		t.Errorf("Check(%.60q) = %d; want 0", m, e)
	}
	if got, e := letter.Show(m); got != want || e != api.OK {
		t.Errorf("Show(%.60q) = %.60q, %d; want %.60q, 0", m, got, e, want)
	}
	parses(t, want, m)
}

// refuses: Check answers this error, and Show and Values do so with it, and with nothing else.
func refuses(t *testing.T, m api.Message, want api.Errno) {
	t.Helper()
	if e := letter.Check(m); e != want {
		t.Errorf("Check(%.60q) = %d; want %d", m, e, want)
	}
	if got, e := letter.Show(m); got != "" || e != want {
		t.Errorf("Show(%.60q) = %.60q, %d; want nothing, %d", m, got, e, want)
	}
	for _, n := range []string{"A", "", strings.Repeat("A", api.MaxPattern+1)} {
		if got, e := letter.Values(m, n); len(got) != 0 || e != want {
			t.Errorf("Values(%.60q, %.9q) = %.60q, %d; want nothing, %d", m, n, got, e, want)
		}
	}
}

// parses: Parse answers this message.
func parses(t *testing.T, s string, want api.Message) {
	t.Helper()
	if got, place, e := letter.Parse(s); !same(got, want) || place != 0 || e != api.OK {
		t.Errorf("Parse(%.60q) = %.60q, %d, %d; want %.60q, 0, 0", s, got, place, e, want)
	}
}

// stumbles: Parse answers this error at this line, and no message.
func stumbles(t *testing.T, s string, line int, want api.Errno) {
	t.Helper()
	if got, place, e := letter.Parse(s); !same(got, api.Message{}) || place != line || e != want {
		t.Errorf("Parse(%.60q) = %.60q, %d, %d; want nothing, %d, %d", s, got, place, e, line, want)
	}
}

// has: Values answers these.
func has(t *testing.T, m api.Message, n string, want ...string) {
	t.Helper()
	if got, e := letter.Values(m, n); strings.Join(got, "|") != strings.Join(want, "|") || len(got) != len(want) || e != api.OK {
		t.Errorf("Values(%.60q, %.60q) = %.60q, %d; want %.60q, 0", m, n, got, e, want)
	}
}

// P2.1: which bytes a name may have, anywhere in it.
func TestNames(t *testing.T) {
	for i := range 256 {
		c := string([]byte{byte(i)})
		for _, name := range []string{c, c + "x", "x" + c, "x" + c + "y"} {
			m := message("", name, "v")
			if i < 33 || i > 126 || c == ":" {
				refuses(t, m, api.ErrForm)
			} else {
				shows(t, m, name+": v\r\n\r\n")
			}
		}
	}
	refuses(t, message("", "", "v"), api.ErrForm)
	refuses(t, message("", "é", "v"), api.ErrForm)
}

// P2.1: the same of names that are parsed.
func TestParsedNames(t *testing.T) {
	for i := range 256 {
		c := string([]byte{byte(i)})
		for _, name := range []string{"x" + c, "x" + c + "y"} {
			switch {
			case c == ":":
				parses(t, name+":v\r\n\r\n", message("", "x", name[2:]+":v"))
			case i < 33 || i > 126:
				stumbles(t, name+":v\r\n\r\n", 0, api.ErrForm)
			default:
				parses(t, name+":v\r\n\r\n", message("", name, "v"))
			}
		}
	}
	stumbles(t, ":v\r\n\r\n", 0, api.ErrForm)
}

// P2.2: MaxFields fields are taken, one more is not, whatever they are.
func TestCheckFull(t *testing.T) {
	shows(t, api.Message{Fields: many(api.MaxFields, "a", "b")}, strings.Repeat("a: b\r\n", api.MaxFields)+"\r\n")
	refuses(t, api.Message{Fields: many(api.MaxFields+1, "a", "b")}, api.ErrFull)
	refuses(t, api.Message{Fields: many(1<<17, "a", "b")}, api.ErrFull)
	refuses(t, api.Message{Fields: many(api.MaxFields+1, "", " ")}, api.ErrFull)
	refuses(t, api.Message{Fields: many(api.MaxFields+1, "a", strings.Repeat("b", api.MaxText))}, api.ErrFull)
}

// P2.2: what a value may be: no line's end in it, no blank at its ends.
func TestValuesInForm(t *testing.T) {
	for _, v := range []string{"", "b", "b c", "b\tc", "b  \t c", "\r", "\n", "\n\r", "b\r", "\nb", "a\nb\rc", "\x00", "\xff\xfe", "é", "\v", "\u00a0", ":", ": b"} {
		shows(t, message("x", "A", v), "A: "+v+"\r\n\r\nx")
	}
	for _, v := range []string{" ", "\t", " b", "b ", "\tb", "b\t", "  ", " \r\n ", "\r\n", "b\r\n", "\r\nb", "b\r\nc", "b\r\n c", "\r\r\n\n"} {
		refuses(t, message("x", "A", v), api.ErrForm)
		refuses(t, message("x", "A", "b", "B", "c", "C", v), api.ErrForm)
		refuses(t, message("x", "C", v, "A", "b"), api.ErrForm)
	}
	refuses(t, message("x", "A", "b", "B :", "c"), api.ErrForm)
}

// P2.2: a text of MaxText bytes is taken, one of more is not; what is not in form is told ahead of it.
func TestCheckSize(t *testing.T) {
	body := strings.Repeat("x", api.MaxText-2)
	shows(t, message(body), "\r\n"+body)
	refuses(t, message(body+"x"), api.ErrSize)
	name, value := strings.Repeat("n", 40), strings.Repeat("v", 50)
	body = strings.Repeat("x", api.MaxText-2-2*94)
	shows(t, message(body, name, value, name, value), name+": "+value+"\r\n"+name+": "+value+"\r\n\r\n"+body)
	refuses(t, message(body+"x", name, value, name, value), api.ErrSize)
	refuses(t, message(body, name, value+"v", name, value), api.ErrSize)
	refuses(t, message(body, name, value, name+"n", value), api.ErrSize)
	refuses(t, message(body, name, value, name, value, "a", ""), api.ErrSize)
	refuses(t, message("", strings.Repeat("n", 1<<20), strings.Repeat("v", 1<<20)), api.ErrSize)
	refuses(t, message(body+"x", name, value, name, value+" "), api.ErrForm)
	refuses(t, message(strings.Repeat("x", 1<<20), "a b", "c"), api.ErrForm)
	refuses(t, message("", "a", strings.Repeat("v", 1<<20)+"\r\n"), api.ErrForm)
}

// P2.3: fields in their order, an empty line, the body as it is.
func TestShow(t *testing.T) {
	shows(t, message(""), "\r\n")
	shows(t, message("\r\n"), "\r\n\r\n")
	shows(t, message("hello"), "\r\nhello")
	shows(t, message("c", "A", "b"), "A: b\r\n\r\nc")
	shows(t, message("", "A", ""), "A: \r\n\r\n")
	shows(t, message("s: t\r\n\r\n.\r\n \x00\xff", "B", "1", "a", "2", "B", "3"), "B: 1\r\na: 2\r\nB: 3\r\n\r\ns: t\r\n\r\n.\r\n \x00\xff")
}

// P2.4: fields and a body.
func TestParse(t *testing.T) {
	parses(t, "\r\n", message(""))
	parses(t, "\r\nA: b\r\n\r\n", message("A: b\r\n\r\n"))
	parses(t, "A: b\r\n\r\nbody", message("body", "A", "b"))
	parses(t, "A: b\r\n\r\n\r\n", message("\r\n", "A", "b"))
	parses(t, "A:b\r\na:\r\nA: c \r\n\r\n x\r\n", message(" x\r\n", "A", "b", "a", "", "A", "c"))
	parses(t, "A:: b:c\r\n\r\n", message("", "A", ": b:c"))
	parses(t, "A:\t b c\t \r\n\r\n", message("", "A", "b c"))
	parses(t, "A: \x00\v\u00a0\r\n\r\n", message("", "A", "\x00\v\u00a0"))
}

// P2.4: only the two bytes together end a line.
func TestParseLineEnds(t *testing.T) {
	parses(t, "A: b\nC: d\r\n\r\n", message("", "A", "b\nC: d"))
	parses(t, "A: b\rC: d\r\n\r\n", message("", "A", "b\rC: d"))
	parses(t, "A: b\n\r\r\n\r\n", message("", "A", "b\n\r"))
	parses(t, "A: b\r\r\n\r\n\r", message("\r", "A", "b\r"))
	stumbles(t, "\n", 0, api.ErrShort)
	stumbles(t, "\r", 0, api.ErrShort)
	stumbles(t, "\n\r", 0, api.ErrShort)
	stumbles(t, "A: b\n\n", 0, api.ErrShort)
	stumbles(t, "A: b\r\n\n", 1, api.ErrShort)
	stumbles(t, "A: b\r\n\n\r\n", 1, api.ErrForm)
	stumbles(t, "A: b\r\n\r\r\n\r\n", 1, api.ErrForm)
}

// P2.4: lines that begin with a blank go on with the field ahead of them; blanks at the value's ends alone go.
func TestParseGoesOn(t *testing.T) {
	parses(t, "A: b\r\n c \r\n\r\nbody", message("body", "A", "b c"))
	parses(t, "A: b \r\n\t c\r\n\r\n", message("", "A", "b \t c"))
	parses(t, "A:\r\n b\r\n\r\n", message("", "A", "b"))
	parses(t, "A: b\r\n \r\n c\r\n\r\n", message("", "A", "b  c"))
	parses(t, "A: b\r\n \r\n\t\r\n\r\n", message("", "A", "b"))
	parses(t, "A: \r\n \t\r\n\r\n", message("", "A", ""))
	parses(t, "A: b\r\n C: d\r\n\r\n", message("", "A", "b C: d"))
	parses(t, "A: b\r\r\n \nc\r\n\r\n", message("", "A", "b\r \nc"))
	parses(t, "A: b\r\nB: c\r\n d\r\nC: e\r\n\tf\r\n\r\n g", message(" g", "A", "b", "B", "c d", "C", "e\tf"))
	stumbles(t, " b\r\n\r\n", 0, api.ErrForm)
	stumbles(t, "\tA: b\r\n\r\n", 0, api.ErrForm)
	stumbles(t, " \r\n\r\n", 0, api.ErrForm)
}

// P2.4: texts that end ahead of a line's end, and the line where they do.
func TestParseShort(t *testing.T) {
	stumbles(t, "", 0, api.ErrShort)
	stumbles(t, "A: b", 0, api.ErrShort)
	stumbles(t, "A b", 0, api.ErrShort)
	stumbles(t, " ", 0, api.ErrShort)
	stumbles(t, "A: b\r\n", 1, api.ErrShort)
	stumbles(t, "A: b\r\nB", 1, api.ErrShort)
	stumbles(t, "A: b\r\n c", 1, api.ErrShort)
	stumbles(t, "A: b\r\n c\r\n", 2, api.ErrShort)
	stumbles(t, "A: b\r\n c\r\nB: d\r", 2, api.ErrShort)
	stumbles(t, strings.Repeat("a:b\r\n", api.MaxFields)+"a:b", api.MaxFields, api.ErrShort)
}

// P2.4: lines that are no fields, and their places.
func TestParseForm(t *testing.T) {
	stumbles(t, "x\r\n\r\n", 0, api.ErrForm)
	stumbles(t, "A: b\r\nx\r\n\r\n", 1, api.ErrForm)
	stumbles(t, "A: b\r\n c\r\na b: c\r\n\r\n", 2, api.ErrForm)
	stumbles(t, "A: b\r\n:\r\n", 1, api.ErrForm)
	stumbles(t, "A : b\r\n\r\n", 0, api.ErrForm)
	stumbles(t, "x\r\ny\r\nz", 0, api.ErrForm)
}

// P2.4: MaxFields fields are taken, with lines that go on; one more is not, at its line.
func TestParseFull(t *testing.T) {
	s := strings.Repeat("a:b\r\n", api.MaxFields)
	parses(t, s+"\r\n", api.Message{Fields: many(api.MaxFields, "a", "b")})
	want := api.Message{Fields: many(api.MaxFields, "a", "b")}
	want.Fields[api.MaxFields-1].Value = "b c"
	parses(t, s+" c\r\n\r\n", want)
	stumbles(t, s+"a:b\r\n\r\n", api.MaxFields, api.ErrFull)
	stumbles(t, s+" c\r\na:b\r\n\r\n", api.MaxFields+1, api.ErrFull)
	stumbles(t, s+"a:b\r\n", api.MaxFields, api.ErrFull)
	stumbles(t, s+"a b\r\n\r\n", api.MaxFields, api.ErrForm)
	stumbles(t, s+"a b:c\r\n\r\n", api.MaxFields, api.ErrForm)
}

// P2.4: texts of MaxText bytes are taken, longer ones are not, whatever is in them.
func TestParseSize(t *testing.T) {
	body := strings.Repeat("x", api.MaxText-2)
	parses(t, "\r\n"+body, message(body))
	stumbles(t, "\r\n"+body+"x", 0, api.ErrSize)
	stumbles(t, "A: b\r\nx\r\n"+body, 0, api.ErrSize)
	stumbles(t, strings.Repeat("x", api.MaxText), 0, api.ErrShort)
	stumbles(t, strings.Repeat("x", api.MaxText+1), 0, api.ErrSize)
	stumbles(t, strings.Repeat("x", 1<<20), 0, api.ErrSize)
	// What is parsed may be too long to be shown: the blank behind the colon may not have been there.
	m := message(body[5:], "A", "b")
	parses(t, "A:b\r\n\r\n"+body[5:], m)
	refuses(t, m, api.ErrSize)
}

// byTheWords: P2.4 in another manner, of texts that are not too long: all lines are cut first.
func byTheWords(s string) (api.Message, int, api.Errno) {
	lines := strings.Split(s, "\r\n")
	var m api.Message
	for i, l := range lines[:len(lines)-1] {
		head := strings.Split(l, ":")[0]
		switch {
		case l == "":
			for j := range m.Fields {
				for v := &m.Fields[j].Value; strings.HasPrefix(*v, " ") || strings.HasPrefix(*v, "\t"); {
					*v = (*v)[1:]
				}
				for v := &m.Fields[j].Value; strings.HasSuffix(*v, " ") || strings.HasSuffix(*v, "\t"); {
					*v = (*v)[:len(*v)-1]
				}
			}
			m.Body = strings.Join(lines[i+1:], "\r\n")
			return m, 0, api.OK
		case (l[0] == ' ' || l[0] == '\t') && i > 0:
			m.Fields[len(m.Fields)-1].Value += l
		case head == l || head == "" || strings.ContainsAny(head, " \t\r\n"):
			return api.Message{}, i, api.ErrForm
		default:
			m.Fields = append(m.Fields, api.Field{Name: head, Value: l[len(head)+1:]})
		}
	}
	return api.Message{}, len(lines) - 1, api.ErrShort
}

// P2.4: all texts of few pieces; what is parsed of them and shown is parsed as it was.
func TestParseByTheWords(t *testing.T) {
	pieces := []string{"a", ":", " ", "\t", "\r\n", "\r", "\n", "b:c\r\n"}
	texts := []string{""}
	for range 6 {
		var longer []string
		for _, s := range texts {
			want, line, e := byTheWords(s)
			if e != api.OK {
				stumbles(t, s, line, e)
			} else {
				parses(t, s, want)
				shown, _ := letter.Show(want)
				parses(t, shown, want)
			}
			for _, p := range pieces {
				longer = append(longer, s+p)
			}
		}
		texts = longer
	}
}

// P2.5: all fields of a name, great and small letters being the same, in their order.
func TestValues(t *testing.T) {
	m := message("A: z", "A", "b", "Bc", "c", "a", "", "bC", "d", "A", "b", "x-Y_z", "e")
	has(t, m, "a", "b", "", "b")
	has(t, m, "A", "b", "", "b")
	has(t, m, "bc", "c", "d")
	has(t, m, "BC", "c", "d")
	has(t, m, "X-y_Z", "e")
	for _, n := range []string{"", "b", "c", "A:", "a ", " a", "*", "?", "\\a", "bcd", "[", "\xc1", "a\r\n"} {
		has(t, m, n)
	}
	has(t, message("A: b"), "A")
	has(t, message("", "[", "1", "{", "2", "@", "3", "`", "4"), "[", "1")
	has(t, message("", "*", "1", "a", "2", "?", "3"), "*", "1")
}

// P2.5: names of MaxPattern bytes are found, longer ones are not.
func TestValuesOfLongNames(t *testing.T) {
	n := strings.Repeat("N", api.MaxPattern)
	m := message("", n, "1", n+"n", "2", n[1:], "3")
	has(t, m, strings.ToLower(n), "1")
	has(t, m, n+"n")
	has(t, m, n[1:], "3")
	has(t, m, strings.Repeat("n", 1<<20))
}

// What holds everywhere: a list that is handed in, and its spare room, stay; what comes out is new memory.
func TestListsAreNotShared(t *testing.T) {
	fields := append(make([]api.Field, 0, 9), api.Field{Name: "A", Value: "b"}, api.Field{Name: "a", Value: "c"})
	spare := fields[:9]
	before := append([]api.Field{}, spare...)
	m := api.Message{Fields: fields, Body: "x"}
	letter.Check(m)
	letter.Show(m)
	one, _ := letter.Values(m, "a")
	two, _ := letter.Values(m, "a")
	one[0] = "changed"
	if !reflect.DeepEqual(spare, before) || two[0] != "b" {
		t.Errorf("%q, %q; want %q, and b", spare, two, before)
	}
	p, _, _ := letter.Parse("A: b\r\n\r\n")
	q, _, _ := letter.Parse("A: b\r\n\r\n")
	p.Fields[0].Value = "changed"
	if q.Fields[0].Value != "b" {
		t.Errorf("two answers share a list: %q", q)
	}
}
