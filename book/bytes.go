package book

import "postroom/api"

// How many bytes numbers have.
const (
	lengthBytes = 3 // the length of a batch, on a tape
	uidBytes    = 3
	textBytes   = 2 // the length of a text
)

// writer of a batch's bytes.
type writer struct{ out []byte }

// number of so many bytes, the highest one first.
func (w *writer) number(n, many int) {
	for i := many - 1; i >= 0; i-- {
		w.out = append(w.out, byte(n>>(8*i)))
	}
}

// batch that may be: so all its numbers fit into their bytes.
func (w *writer) batch(b api.Batch) {
	w.number(b.User, 1)
	w.number(len(b.Entries), 1)
	for _, x := range b.Entries {
		w.entry(x)
	}
}

// entry of a batch. All kinds are written the same way: what a kind has not is empty.
func (w *writer) entry(x api.Entry) {
	w.number(x.Kind, 1)
	w.number(x.Flags, 1)
	w.number(x.Uid, uidBytes)
	for _, s := range [3]string{x.Box, x.To, x.Text} {
		w.number(len(s), textBytes)
		w.out = append(w.out, s...)
	}
}

// reader of what a writer wrote. Once it is short it has nothing left, and reads zeros.
type reader struct {
	rest  []byte
	short bool
}

// take so many bytes.
func (r *reader) take(many int) []byte {
	if many > len(r.rest) {
		r.rest, r.short = nil, true
		return nil
	}
	l := r.rest[:many]
	r.rest = r.rest[many:]
	return l
}

// number of so many bytes, the highest one first.
func (r *reader) number(many int) int {
	n := 0
	for _, c := range r.take(many) {
		n = n<<8 | int(c)
	}
	return n
}

// batch, as its bytes tell it: it is not checked yet.
func (r *reader) batch() api.Batch {
	b := api.Batch{User: r.number(1)}
	for range r.number(1) {
		b.Entries = append(b.Entries, r.entry())
	}
	return b
}

// entry of a batch.
func (r *reader) entry() api.Entry {
	x := api.Entry{Kind: r.number(1), Flags: r.number(1), Uid: r.number(uidBytes)}
	var texts [3]string
	for i := range texts {
		texts[i] = string(r.take(r.number(textBytes)))
	}
	x.Box, x.To, x.Text = texts[0], texts[1], texts[2]
	return x
}

// framed: a batch behind its length. Not ok: none stands there whole.
func (r *reader) framed() (api.Batch, bool) {
	l := r.take(r.number(lengthBytes))
	if r.short {
		return api.Batch{}, false
	}
	b, e := Decode(l)
	return b, e == api.OK
}
