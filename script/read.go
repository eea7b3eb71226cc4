package script

import "postroom/api"

// misfit: the place where a reader gives up, and why.
type misfit struct {
	place int
	e     api.Errno
}

// reader of tokens that may be: the place of the next one. Where a token can't stand its methods panic with a misfit,
// which the face recovers: so none of them has to hand it on.
type reader struct {
	l  []api.Token
	at int
}

// readScript: all commands of tokens.
func readScript(l []api.Token) []api.Command {
	r := reader{l: l}
	var out []api.Command
	for !r.ended() {
		out = append(out, r.command(0))
	}
	return out
}

// command that is so deep.
func (r *reader) command(depth int) api.Command {
	c := api.Command{Kind: r.kind(aCommand, depth)}
	switch c.Kind {
	case api.If:
		return r.branches(depth)
	case api.Require, api.SetFlag, api.AddFlag:
		c.Texts = r.list()
	case api.FileInto, api.Redirect, api.Reject:
		c.Texts = []string{r.text()}
	}
	r.take(api.Mark, ";")
	return c
}

// branches of an If that is so deep: what stands behind its if or elsif.
func (r *reader) branches(depth int) api.Command {
	c := api.Command{Kind: api.If}
	c.Test = r.test(1)
	c.Then = r.block(depth + 1)
	switch {
	case r.skips(api.Word, elsifWord):
		c.Else = []api.Command{r.branches(depth)}
	case r.skips(api.Word, elseWord):
		c.Else = r.block(depth + 1)
	}
	return c
}

// block of commands that are so deep. Where the tokens end in it no command is to begin, however deep it would be: the
// block's end may stand there as well.
func (r *reader) block(depth int) []api.Command {
	r.take(api.Mark, "{")
	var out []api.Command
	for !r.ended() && !r.meets(api.Mark, "}") {
		out = append(out, r.command(depth))
	}
	r.take(api.Mark, "}")
	return out
}

// test that is so deep.
func (r *reader) test(depth int) api.Test {
	t := api.Test{Kind: r.kind(aTest, depth)}
	switch t.Kind {
	case api.Not:
		t.Tests = []api.Test{r.test(depth + 1)}
	case api.AllOf, api.AnyOf:
		t.Tests = r.tests(depth + 1)
	case api.Header, api.Addr, api.Envelope:
		t.Match, t.Part = r.tags(t.Kind != api.Header)
		t.Names = r.list()
		t.Keys = r.list()
	case api.Exists:
		t.Names = r.list()
	case api.Size:
		t.Over, t.Limit = r.bound()
	}
	return t
}

// tests that are so deep, with commas between, and what is around them.
func (r *reader) tests(depth int) []api.Test {
	r.take(api.Mark, "(")
	out := []api.Test{r.test(depth)}
	for r.skips(api.Mark, ",") {
		out = append(out, r.test(depth))
	}
	r.take(api.Mark, ")")
	return out
}

// tags, as many as there are: the Match and, of a test that has one, the Part.
func (r *reader) tags(hasPart bool) (match, part int) {
	for r.next().Kind == api.Tag {
		m, p := numberOf(aMatch, r.next().Text), numberOf(aPart, r.next().Text)
		switch {
		case m != 0 && match == 0:
			match = m
		case p != 0 && part == 0 && hasPart:
			part = p
		default:
			panic(r.misfitHere())
		}
		r.at++
	}
	if match == 0 {
		match = api.Is
	}
	if part == 0 && hasPart {
		part = api.All
	}
	return match, part
}

// bound of a size: whether it is to be over that, and the number.
func (r *reader) bound() (bool, int) {
	over := r.skips(api.Tag, overTag)
	if !over {
		r.take(api.Tag, underTag)
	}
	return over, r.takeKind(api.Number).Number
}

// list of texts.
func (r *reader) list() []string {
	if !r.skips(api.Mark, "[") {
		return []string{r.text()}
	}
	out := []string{r.text()}
	for r.skips(api.Mark, ",") {
		out = append(out, r.text())
	}
	r.take(api.Mark, "]")
	return out
}

// text of a String.
func (r *reader) text() string {
	return r.takeKind(api.String).Text
}

// kind of a command or test that is to begin here. That it would be too deep comes ahead of what stands here, and, of
// a test, of whether anything does: nothing else may stand where one is to begin.
func (r *reader) kind(thing, depth int) int {
	if depth > api.MaxNest {
		panic(misfit{r.at, api.ErrSize})
	}
	n := numberOf(thing, r.next().Text)
	if r.next().Kind != api.Word || n == 0 {
		panic(r.misfitHere())
	}
	r.at++
	return n
}

// ended: there is no next token.
func (r *reader) ended() bool {
	return r.at == len(r.l)
}

// next token, which is not taken yet; at the end one that may not be.
func (r *reader) next() api.Token {
	if r.ended() {
		return api.Token{}
	}
	return r.l[r.at]
}

// takeKind: the next token, which must be of this kind.
func (r *reader) takeKind(kind int) api.Token {
	t := r.next()
	if t.Kind != kind {
		panic(r.misfitHere())
	}
	r.at++
	return t
}

// take the next token, which must be this one.
func (r *reader) take(kind int, text string) {
	if !r.skips(kind, text) {
		panic(r.misfitHere())
	}
}

// skips the next token, if it is this one, and tells so.
func (r *reader) skips(kind int, text string) bool {
	if !r.meets(kind, text) {
		return false
	}
	r.at++
	return true
}

// meets: the next token is this one.
func (r *reader) meets(kind int, text string) bool {
	t := r.next()
	return t.Kind == kind && t.Text == text
}

// misfitHere: why the next token can't stand where it stands.
func (r *reader) misfitHere() misfit {
	if r.ended() {
		return misfit{r.at, api.ErrShort}
	}
	return misfit{r.at, api.ErrForm}
}
