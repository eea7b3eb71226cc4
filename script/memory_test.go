package script_test

import (
	"slices"
	"strconv"
	"testing"

	"postroom/api"
	"postroom/script"
)

// A source with lists of all sorts.
const mixed = `require ["a", "b"]; if anyof (header ["n", "m"] ["k", "l"], not exists ["x", "y", "z"], address "p" "q") { addflag ["c", "d", "e"]; fileinto "f"; if true { keep; } }
elsif size :over 1 { keep; stop; } else { reject "g"; discard; stop; } setflag "h"; stop;`

// lists of texts, tests and commands, each with its spare room.
type lists struct {
	texts    [][]string
	tests    [][]api.Test
	commands [][]api.Command
}

// commandLists: all lists that are in this one, and itself.
func (a *lists) commandLists(l []api.Command) {
	a.commands = append(a.commands, l[:cap(l)])
	for _, c := range l {
		a.texts = append(a.texts, c.Texts[:cap(c.Texts)])
		a.testLists([]api.Test{c.Test})
		a.commandLists(c.Then)
		a.commandLists(c.Else)
	}
}

// testLists: all lists that are in these tests.
func (a *lists) testLists(l []api.Test) {
	for _, x := range l {
		a.texts = append(a.texts, x.Names[:cap(x.Names)], x.Keys[:cap(x.Keys)])
		a.tests = append(a.tests, x.Tests[:cap(x.Tests)])
		a.testLists(x.Tests)
	}
}

// mark each place of each list with a number of its own; then tell whether each still has it.
func (a *lists) unshared() bool {
	n := 0
	for _, l := range a.texts {
		for i := range l {
			n++
			l[i] = strconv.Itoa(n)
		}
	}
	for _, l := range a.tests {
		for i := range l {
			n++
			l[i] = api.Test{Kind: n}
		}
	}
	for _, l := range a.commands {
		for i := range l {
			n++
			l[i] = api.Command{Kind: n}
		}
	}
	return a.marked()
}

// marked tells whether each place has the number that it was marked with.
func (a *lists) marked() bool {
	n := 0
	ok := true
	for _, l := range a.texts {
		for i := range l {
			n++
			ok = ok && l[i] == strconv.Itoa(n)
		}
	}
	for _, l := range a.tests {
		for i := range l {
			n++
			ok = ok && l[i].Kind == n
		}
	}
	for _, l := range a.commands {
		for i := range l {
			n++
			ok = ok && l[i].Kind == n
		}
	}
	return ok
}

// What Parse is handed stays as it is, its spare room too; no two lists that it answers share any memory.
func TestParseSharesNothing(t *testing.T) {
	spare := api.Token{Kind: 77, Text: "spare", Number: 7}
	l := tokens(t, mixed)
	in := append(slices.Clip(slices.Clone(l)), spare, spare, spare)
	before := slices.Clone(in)
	first, _, e := script.Parse(in[:len(l)])
	second, _, f := script.Parse(in[:len(l)])
	want := tell(second)
	if e != api.OK || f != api.OK || tell(first) != want {
		t.Fatalf("Parse: %d, %d, %s, %s", e, f, tell(first), want)
	}
	var a lists
	a.commandLists(first)
	if !a.unshared() {
		t.Error("lists of an answer share memory")
	}
	if tell(second) != want {
		t.Error("two answers share memory")
	}
	if !slices.Equal(in, before) {
		t.Error("what was handed in is changed")
	}
}

// What Check and Show are handed stays as it is, its spare room too; no two answers share any memory.
func TestShowSharesNothing(t *testing.T) {
	l, _, _ := script.Parse(tokens(t, mixed))
	for i := range l {
		l[i].Texts = append(slices.Clip(l[i].Texts), "spare")[:len(l[i].Texts)]
		l[i].Then = append(slices.Clip(l[i].Then), plain(77))[:len(l[i].Then)]
	}
	in := append(slices.Clip(slices.Clone(l)), plain(77), plain(78))
	var a lists
	a.commandLists(in)
	before := tell(a)
	first, e := script.Show(in[:len(l)])
	second, f := script.Show(in[:len(l)])
	if e != api.OK || f != api.OK || script.Check(in[:len(l)]) != api.OK || !slices.Equal(first, second) {
		t.Fatalf("Show: %d, %d, %v, %v", e, f, first, second)
	}
	want := slices.Clone(second)
	first = first[:cap(first)]
	for i := range first {
		first[i] = api.Token{Kind: 99}
	}
	if !slices.Equal(second, want) {
		t.Error("two answers share memory")
	}
	var b lists
	b.commandLists(in)
	if tell(b) != before {
		t.Error("what was handed in is changed")
	}
}

// Texts of any bytes, and very long ones, stand in a script as they are.
func TestAnyTexts(t *testing.T) {
	for i := range 256 {
		s := string([]byte{byte(i), 'x', byte(i)})
		l := []api.Token{{Kind: api.Word, Text: "reject"}, {Kind: api.String, Text: s}, {Kind: api.Mark, Text: ";"}}
		got, place, e := script.Parse(l)
		if tell(got) != tell([]api.Command{plain(api.Reject, s)}) || place != 0 || e != api.OK {
			t.Errorf("Parse(%s) = %s, %d, %d", tell(l), tell(got), place, e)
		}
		if shown, e := script.Show(got); !slices.Equal(shown, l) || e != api.OK {
			t.Errorf("Show(%s) = %s, %d; want %s, 0", tell(got), tell(shown), e, tell(l))
		}
	}
	long := string(make([]byte, 1<<20))
	checks(t, api.OK, plain(api.Reject, long), when(api.Test{Kind: api.Exists, Names: []string{long}}))
	if got, _, e := script.Parse([]api.Token{{Kind: api.Word, Text: "stop"}, {Kind: api.Word, Text: long}}); len(got) != 0 || e != api.ErrForm {
		t.Errorf("Parse of a word that is none: %d", e)
	}
}
