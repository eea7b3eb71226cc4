package script

import "postroom/api"

// writer of tokens.
type writer struct {
	l []api.Token
}

// tokensOf commands that may be, but for their number: of too many tokens only one too many is made.
func tokensOf(l []api.Command) []api.Token {
	var w writer
	w.commands(l)
	return w.l
}

// commands, one behind the other.
func (w *writer) commands(l []api.Command) {
	for _, c := range l {
		w.put(api.Word, words[aCommand][c.Kind])
		if c.Kind == api.If {
			w.branches(c)
			continue
		}
		if len(c.Texts) > 0 {
			w.list(c.Texts)
		}
		w.put(api.Mark, ";")
	}
}

// branches of an If: what stands behind its if.
func (w *writer) branches(c api.Command) {
	w.test(c.Test)
	w.block(c.Then)
	for isElsif(c.Else) {
		c = c.Else[0]
		w.put(api.Word, elsifWord)
		w.test(c.Test)
		w.block(c.Then)
	}
	if len(c.Else) > 0 {
		w.put(api.Word, elseWord)
		w.block(c.Else)
	}
}

// block of commands.
func (w *writer) block(l []api.Command) {
	w.put(api.Mark, "{")
	w.commands(l)
	w.put(api.Mark, "}")
}

// test, and those in it.
func (w *writer) test(t api.Test) {
	w.put(api.Word, words[aTest][t.Kind])
	switch t.Kind {
	case api.Not:
		w.test(t.Tests[0])
	case api.AllOf, api.AnyOf:
		w.tests(t.Tests)
	case api.Header, api.Addr, api.Envelope:
		if t.Kind != api.Header {
			w.put(api.Tag, words[aPart][t.Part])
		}
		w.put(api.Tag, words[aMatch][t.Match])
		w.list(t.Names)
		w.list(t.Keys)
	case api.Exists:
		w.list(t.Names)
	case api.Size:
		w.bound(t.Over, t.Limit)
	}
}

// tests with commas between, and what is around them.
func (w *writer) tests(l []api.Test) {
	w.put(api.Mark, "(")
	for i, t := range l {
		if i > 0 {
			w.put(api.Mark, ",")
		}
		w.test(t)
	}
	w.put(api.Mark, ")")
}

// bound of a size.
func (w *writer) bound(over bool, limit int) {
	tag := underTag
	if over {
		tag = overTag
	}
	w.put(api.Tag, tag)
	w.add(api.Token{Kind: api.Number, Number: limit})
}

// list of texts; of one it is just that.
func (w *writer) list(l []string) {
	if len(l) == 1 {
		w.put(api.String, l[0])
		return
	}
	w.put(api.Mark, "[")
	for i, s := range l {
		if i > 0 {
			w.put(api.Mark, ",")
		}
		w.put(api.String, s)
	}
	w.put(api.Mark, "]")
}

// put a token that has a text.
func (w *writer) put(kind int, text string) {
	w.add(api.Token{Kind: kind, Text: text})
}

// add a token. What is more than one too many is never asked for, and may be very much.
func (w *writer) add(t api.Token) {
	if len(w.l) <= api.MaxTokens {
		w.l = append(w.l, t)
	}
}
