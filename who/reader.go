package who

import (
	"strings"

	"postroom/api"
)

// reader of a list: what of it is still to be read. Where that is not in form its methods panic with the error, which
// the face recovers: so none of them has to hand it on.
type reader struct {
	rest string
}

// readList: all addresses of a list.
func readList(s string) []api.Address {
	r := reader{s}
	var l []api.Address
	for {
		l = append(l, r.address())
		if r.rest == "" {
			return l
		}
		r.take(',')
	}
}

// address, and the blanks ahead of it and behind it.
func (r *reader) address() api.Address {
	r.blanks()
	var a api.Address
	if r.beginsPlain() {
		a = r.plain()
	} else {
		r.words()
		r.take('<')
		a = r.plain()
		r.take('>')
	}
	r.blanks()
	return a
}

// beginsPlain tells whether a run comes with an @ right behind it, which is then no word.
func (r *reader) beginsPlain() bool {
	return strings.HasPrefix(r.rest[runLength(r.rest):], "@")
}

// plain address.
func (r *reader) plain() api.Address {
	var a api.Address
	a.Local = r.run()
	r.take('@')
	a.Domain = r.run()
	if Check(a) != api.OK {
		panic(api.ErrForm)
	}
	return a
}

// words, and the blanks between them and behind them.
func (r *reader) words() {
	for {
		if strings.HasPrefix(r.rest, `"`) {
			r.quoted()
		} else if r.run() == "" {
			return
		}
		r.blanks()
	}
}

// quoted word.
func (r *reader) quoted() {
	r.take('"')
	for {
		switch r.next() {
		case '"':
			return
		case '\\':
			if c := r.next(); c != '"' && c != '\\' {
				panic(api.ErrForm)
			}
		}
	}
}

// run of bytes of atoms and dots, as long as can be; it may be empty.
func (r *reader) run() string {
	n := runLength(r.rest)
	run := r.rest[:n]
	r.rest = r.rest[n:]
	return run
}

// blanks, as many as there are.
func (r *reader) blanks() {
	r.rest = strings.TrimLeft(r.rest, blanks)
}

// take just this byte.
func (r *reader) take(c byte) {
	if r.next() != c {
		panic(api.ErrForm)
	}
}

// next byte.
func (r *reader) next() byte {
	if r.rest == "" {
		panic(api.ErrForm)
	}
	c := r.rest[0]
	r.rest = r.rest[1:]
	return c
}

// runLength: how many bytes of atoms and dots a text begins with.
func runLength(s string) int {
	n := 0
	for n < len(s) && (s[n] == '.' || inAtom(s[n])) {
		n++
	}
	return n
}
