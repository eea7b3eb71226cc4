package book_test

import (
	"bytes"
	"math/rand/v2"
	"slices"
	"testing"

	"postroom/api"
	"postroom/book"
	"postroom/box"
)

// drawer of batches and tapes: from few names and numbers, so that entries can be done, or not.
type drawer struct{ *rand.Rand }

// one of some.
func one[E any](d drawer, l ...E) E { return l[d.IntN(len(l))] }

// rare: seldom the second, else the first.
func rare[E any](d drawer, a, b E) E {
	if d.IntN(60) == 0 {
		return b
	}
	return a
}

// text of few bytes, or of many.
func (d drawer) text() string {
	l := make([]byte, rare(d, d.IntN(20), d.IntN(api.MaxText+2)))
	for i := range l {
		l[i] = byte(d.IntN(256))
	}
	return string(l)
}

// entry that mostly has its form, and that bytes can tell.
func (d drawer) entry() api.Entry {
	name, uid, flags := one(d, "INBOX", "INBOX", "a", "b"), rare(d, d.IntN(6), d.IntN(1<<24)), rare(d, d.IntN(32), d.IntN(256))
	x := one(d, create(name), add(name, flags, d.text()), add(name, flags, d.text()), flag(name, uid, flags), expunge(name), copied(name, uid, one(d, "INBOX", "a")), spool("a@b", d.text()))
	x.Kind = rare(d, x.Kind, d.IntN(256))
	x.To = rare(d, x.To, d.text())
	return x
}

// batch that mostly may be, and that bytes can tell.
func (d drawer) batch() api.Batch {
	b := batch(rare(d, d.IntN(api.MaxUsers), d.IntN(256)))
	for range rare(d, 1+d.IntN(3), d.IntN(20)) {
		b.Entries = append(b.Entries, d.entry())
	}
	return b
}

// damaged bytes: one is another, is gone, or stands there in addition.
func (d drawer) damaged(l []byte) []byte {
	i := d.IntN(len(l) + 1)
	switch c := byte(d.IntN(256)); {
	case i == len(l) || d.IntN(3) == 0:
		return slices.Insert(slices.Clone(l), i, c)
	case d.IntN(2) == 0:
		return slices.Delete(slices.Clone(l), i, i+1)
	default:
		l = slices.Clone(l)
		l[i] = c
		return l
	}
}

// start of a tape: nothing, something that is no batch, or so many batches that there is little room left.
func (d drawer) start() api.Tape {
	few := api.Tape{Data: bytes.Repeat([]byte{byte(d.IntN(2))}, d.IntN(9))}
	many := api.Tape{Data: bytes.Repeat(record(batch(0, create("a"))), 5800)}
	many.Synced = len(many.Data)
	return one(d, api.Tape{}, few, many)
}

// allowed: what is refused of a batch, by the chapter's words.
func allowed(b api.Batch) api.Errno {
	if b.User < 0 || b.User > 2 {
		return api.ErrRange
	}
	if n := len(b.Entries); n < 1 || n > 10 {
		return api.ErrSize
	}
	for _, x := range b.Entries {
		if e := box.Form(x); e != api.OK {
			return e
		}
	}
	return api.OK
}

// read a batch from the beginning of bytes, place by place; where does it end? Below 0: beyond them.
func read(l []byte) (api.Batch, int) {
	at := 0
	next := func() int {
		if at < 0 || at >= len(l) {
			at = -1
			return 0
		}
		at++
		return int(l[at-1])
	}
	word := func() string {
		var out []byte
		for range next()*256 + next() {
			out = append(out, byte(next()))
		}
		return string(out)
	}
	b := api.Batch{User: next()}
	for range next() {
		var x api.Entry
		x.Kind, x.Flags = next(), next()
		x.Uid = next() * 65536
		x.Uid += next() * 256
		x.Uid += next()
		x.Box, x.To, x.Text = word(), word(), word()
		b.Entries = append(b.Entries, x)
		if at < 0 {
			break
		}
	}
	return b, at
}

// decoded: the batch of bytes, by the chapter's words.
func decoded(l []byte) (api.Batch, api.Errno) {
	b, end := read(l)
	switch {
	case len(l) > api.MaxBytes:
		return api.Batch{}, api.ErrSize
	case end < 0:
		return api.Batch{}, api.ErrShort
	case end < len(l):
		return api.Batch{}, api.ErrForm
	}
	if e := allowed(b); e != api.OK {
		return api.Batch{}, e
	}
	return b, api.OK
}

// recovered: the whole batches of bytes, and where they end, by the chapter's words.
func recovered(l []byte) ([]api.Batch, int) {
	var out []api.Batch
	at := 0
	for at+3 <= len(l) {
		end := at + 3 + int(l[at])*65536 + int(l[at+1])*256 + int(l[at+2])
		if end > len(l) {
			break
		}
		b, e := decoded(l[at+3 : end])
		if e != api.OK {
			break
		}
		out, at = append(out, b), end
	}
	return out, at
}

// enough: each of these errors came up often enough.
func enough(t *testing.T, count map[api.Errno]int, l ...api.Errno) {
	t.Helper()
	for _, e := range l {
		if count[e] < 50 {
			t.Errorf("%v came up %d times", e, count[e])
		}
	}
}

// P10.2, P10.3: drawn batches are refused, or become the bytes that the chapter's words tell.
func TestBatchesDrawn(t *testing.T) {
	d := drawer{rand.New(rand.NewPCG(10, 1))}
	count := map[api.Errno]int{}
	for range 40000 {
		b := d.batch()
		e := allowed(b)
		count[e]++
		if checks(t, e, b); e == api.OK {
			encodes(t, b, told(b))
		} else if got, f := book.Encode(b); f != e || len(got) != 0 {
			t.Errorf("Encode(%s) = %s, %d; want nothing, %d", short(b), short(got), f, e)
		}
		if t.Failed() {
			return
		}
	}
	enough(t, count, api.OK, api.ErrKind, api.ErrForm, api.ErrRange, api.ErrSize)
}

// P10.4: bytes of drawn batches, damaged or not, are refused, or are the batch that the chapter's words tell: and then they are its only bytes.
func TestBytesDrawn(t *testing.T) {
	d := drawer{rand.New(rand.NewPCG(10, 2))}
	count := map[api.Errno]int{}
	for range 60000 {
		l := told(d.batch())
		for range d.IntN(3) {
			l = d.damaged(l)
		}
		want, e := decoded(l)
		count[e]++
		if e == api.OK {
			encodes(t, want, l)
		} else {
			undecoded(t, e, l)
		}
		if t.Failed() {
			return
		}
	}
	enough(t, count, api.OK, api.ErrShort, api.ErrForm, api.ErrRange, api.ErrSize, api.ErrKind)
}

// P10.5 to P10.8: drawn courses of a tape are held against bytes and a number.
func TestTapesDrawn(t *testing.T) {
	d := drawer{rand.New(rand.NewPCG(10, 3))}
	count := map[api.Errno]int{}
	var x api.Tape
	for i := range 20000 {
		if i%300 == 0 {
			x = d.start()
		}
		var got api.Tape
		var e api.Errno
		want := x
		switch d.IntN(12) {
		default:
			b := d.batch()
			got, e = book.Append(x, b)
			if f := allowed(b); f != api.OK || len(x.Data)+len(record(b)) > api.MaxBytes {
				if f == api.OK {
					f = api.ErrFull
				}
				noTape(t, "Append", got, e, f)
				count[e]++
				continue
			}
			want.Data = slices.Concat(x.Data, record(b))
		case 0, 1:
			got, e = book.Sync(x)
			want.Synced = len(x.Data)
		case 2:
			keep := one(d, 0, d.IntN(200), d.IntN(5000), 1<<62)
			got, e = book.Crash(x, keep)
			want.Data = x.Data[:x.Synced+min(keep, len(x.Data)-x.Synced)]
			want.Synced = len(want.Data)
		case 3:
			l, end := recovered(x.Data)
			var batches []api.Batch
			batches, got, e = book.Recover(x)
			if !slices.EqualFunc(batches, l, sameBatch) {
				t.Fatalf("Recover(%s) = %s, want %s", short(x), short(batches), short(l))
			}
			want = api.Tape{Data: x.Data[:end], Synced: min(x.Synced, end)}
		}
		tapeIs(t, "drawn", got, e, want)
		count[e]++
		if t.Failed() {
			return
		}
		x = got
	}
	enough(t, count, api.OK, api.ErrFull, api.ErrKind, api.ErrForm, api.ErrRange, api.ErrSize)
}

// P10.8: drawn tapes that are damaged have the batches that the chapter's words tell.
func TestDamagedTapesDrawn(t *testing.T) {
	d := drawer{rand.New(rand.NewPCG(10, 4))}
	count := map[int]int{}
	for range 20000 {
		var l []byte
		for range 1 + d.IntN(5) {
			l = append(l, record(d.batch())...)
		}
		for range d.IntN(3) {
			l = d.damaged(l)
		}
		want, end := recovered(l)
		count[len(want)]++
		synced := d.IntN(len(l) + 1)
		if recovers(t, api.Tape{Data: l, Synced: synced}, want, end, min(synced, end)); t.Failed() {
			return
		}
	}
	for n := range 6 {
		if count[n] < 50 {
			t.Errorf("%d batches came up %d times", n, count[n])
		}
	}
}

// P10.9: drawn batches are folded entry by entry.
func TestFoldDrawn(t *testing.T) {
	d := drawer{rand.New(rand.NewPCG(10, 5))}
	count := map[api.Errno]int{}
	for range 4000 {
		var l []api.Batch
		wrong := api.OK
		for range d.IntN(20) {
			l = append(l, d.batch())
			if wrong == api.OK {
				wrong = allowed(l[len(l)-1])
			}
		}
		user := rare(d, d.IntN(api.MaxUsers), one(d, -1, 3))
		if wrong == api.OK && (user < 0 || user > 2) {
			wrong = api.ErrRange
		}
		count[wrong]++
		if wrong != api.OK {
			unfolded(t, wrong, user, l...)
			continue
		}
		s := stateOf(boxOf("INBOX", 1))
		for _, b := range l {
			next, e := s, api.OK
			for i := 0; i < len(b.Entries) && e == api.OK && b.User == user; i++ {
				next, e = box.Apply(next, b.Entries[i])
			}
			if e == api.OK {
				s = next
			}
			count[e]++
		}
		if folds(t, user, s, l...); t.Failed() {
			return
		}
	}
	enough(t, count, api.OK, api.ErrKind, api.ErrForm, api.ErrRange, api.ErrSize, api.ErrNone, api.ErrTwice)
}
