package book_test

import (
	"bytes"
	"slices"
	"testing"

	"postroom/api"
	"postroom/book"
)

// record: a batch's bytes behind their length, by the chapter's words.
func record(b api.Batch) []byte { return framed(told(b)) }

// framed: bytes behind their length.
func framed(l []byte) []byte {
	return append([]byte{byte(len(l) >> 16), byte(len(l) >> 8), byte(len(l))}, l...)
}

// records of batches, one behind the other.
func records(l ...api.Batch) []byte {
	var out []byte
	for _, b := range l {
		out = append(out, record(b)...)
	}
	return out
}

// tapeIs: a call has answered this tape.
func tapeIs(t *testing.T, what string, got api.Tape, e api.Errno, want api.Tape) {
	t.Helper()
	if e != api.OK || !sameTape(got, want) {
		t.Errorf("%s: %d bytes %s, synced %d, %d; want %d bytes %s, synced %d, 0", what, len(got.Data), short(got.Data), got.Synced, e, len(want.Data), short(want.Data), want.Synced)
	}
}

// noTape: a call has answered this error, and nothing else.
func noTape(t *testing.T, what string, got api.Tape, e, want api.Errno) {
	t.Helper()
	if e != want || len(got.Data) != 0 || got.Synced != 0 {
		t.Errorf("%s: %s, %d; want nothing, %d", what, short(got), e, want)
	}
}

// recovers: Recover answers these batches, and a tape of so many bytes, with that Synced.
func recovers(t *testing.T, x api.Tape, want []api.Batch, end, synced int) {
	t.Helper()
	l, got, e := book.Recover(x)
	if e != api.OK || !slices.EqualFunc(l, want, sameBatch) {
		t.Errorf("Recover(%s) = %s, %d; want %s, 0", short(x), short(l), e, short(want))
	}
	tapeIs(t, "Recover("+short(x)+")", got, e, api.Tape{Data: x.Data[:end], Synced: synced})
}

// P10.1: tapes that may not be are refused by all calls, ahead of all else; those at the bounds are taken.
func TestTapes(t *testing.T) {
	zeros := func(n int) []byte { return make([]byte, n) }
	wrong := []api.Tape{tape(1), tape(-1), tape(4, 1, 2, 3), tape(-1, 1, 2, 3), {Data: zeros(api.MaxBytes + 1)}, {Data: zeros(api.MaxBytes + 1), Synced: api.MaxBytes}, {Data: zeros(3 * api.MaxBytes), Synced: -1}, {Data: zeros(api.MaxBytes), Synced: api.MaxBytes + 1}}
	for _, n := range far {
		wrong = append(wrong, tape(n), tape(n, 1, 2), api.Tape{Data: zeros(api.MaxBytes), Synced: n})
	}
	for _, x := range wrong {
		for _, b := range []api.Batch{batch(0, create("a")), batch(-1), batch(0), batch(0, api.Entry{})} {
			got, e := book.Append(x, b)
			noTape(t, "Append to "+short(x), got, e, api.ErrState)
		}
		got, e := book.Sync(x)
		noTape(t, "Sync "+short(x), got, e, api.ErrState)
		for _, n := range append(far, -1, 0, 1) {
			got, e = book.Crash(x, n)
			noTape(t, "Crash "+short(x), got, e, api.ErrState)
		}
		l, got, e := book.Recover(x)
		noTape(t, "Recover "+short(x), got, e, api.ErrState)
		if len(l) != 0 {
			t.Errorf("Recover(%s) = %s", short(x), short(l))
		}
	}
	for _, x := range []api.Tape{tape(0), {Data: []byte{}}, tape(0, 1), tape(1, 1), {Data: zeros(api.MaxBytes)}, {Data: zeros(api.MaxBytes), Synced: api.MaxBytes}} {
		got, e := book.Sync(x)
		tapeIs(t, "Sync", got, e, api.Tape{Data: x.Data, Synced: len(x.Data)})
		got, e = book.Crash(x, 0)
		tapeIs(t, "Crash", got, e, api.Tape{Data: x.Data[:x.Synced], Synced: x.Synced})
		recovers(t, x, nil, 0, 0)
		if got, e = book.Append(x, batch(0, create("a"))); e != api.OK && len(x.Data) < api.MaxBytes || e != api.ErrFull && len(x.Data) == api.MaxBytes {
			t.Errorf("Append to %d bytes: %d", len(x.Data), e)
		}
	}
}

// P10.5: a batch stands behind all that is there, whatever that is, and nothing more is synced.
func TestAppend(t *testing.T) {
	got, e := book.Append(api.Tape{}, batch(1, flag("a", 258, 3)))
	tapeIs(t, "Append", got, e, tape(0, 0, 0, 14, 1, 1, 3, 3, 0, 1, 2, 0, 1, 97, 0, 0, 0, 0))
	long := batch(0, slices.Repeat([]api.Entry{add("a", 0, text(api.MaxText))}, api.MaxBatch)...)
	got, e = book.Append(api.Tape{}, long)
	tapeIs(t, "Append", got, e, api.Tape{Data: append([]byte{0, 78, 154}, told(long)...)})
	for _, start := range []api.Tape{{}, tape(0, 9), tape(1, 9), tape(2, 0, 0, 1), {Data: record(long), Synced: 7}, {Data: []byte(text(500)), Synced: 500}} {
		for _, b := range goodBatches() {
			got, e := book.Append(start, b)
			tapeIs(t, "Append "+short(b), got, e, api.Tape{Data: slices.Concat(start.Data, record(b)), Synced: start.Synced})
		}
	}
}

// P10.5: what Check refuses is refused, even if the tape is full.
func TestAppendWrong(t *testing.T) {
	for _, x := range []api.Tape{{}, tape(1, 1, 2), {Data: make([]byte, api.MaxBytes), Synced: 3}} {
		for _, w := range wrongBatches() {
			got, e := book.Append(x, w.it)
			noTape(t, "Append "+short(w.it), got, e, w.e)
		}
	}
}

// P10.5: a tape that would have more than MaxBytes bytes is full.
func TestAppendFull(t *testing.T) {
	for _, b := range goodBatches() {
		l := record(b)
		for _, synced := range []int{0, 100, api.MaxBytes - len(l)} {
			start := api.Tape{Data: make([]byte, api.MaxBytes-len(l)), Synced: synced}
			got, e := book.Append(start, b)
			tapeIs(t, "Append "+short(b), got, e, api.Tape{Data: slices.Concat(start.Data, l), Synced: synced})
			for _, more := range []int{1, 2, 3, 4, len(l)} {
				start := api.Tape{Data: make([]byte, api.MaxBytes-len(l)+more), Synced: synced}
				got, e := book.Append(start, b)
				noTape(t, "Append "+short(b), got, e, api.ErrFull)
			}
		}
	}
}

// P10.6: all bytes are synced.
func TestSync(t *testing.T) {
	for _, x := range []api.Tape{{}, tape(0, 1), tape(1, 1), tape(0, 1, 2, 3), tape(2, 1, 2, 3), {Data: records(goodBatches()...), Synced: 17}} {
		got, e := book.Sync(x)
		tapeIs(t, "Sync "+short(x), got, e, api.Tape{Data: x.Data, Synced: len(x.Data)})
	}
}

// P10.7: the synced bytes stay, and so many of the others.
func TestCrash(t *testing.T) {
	const most = 1<<63 - 1
	for _, c := range []struct {
		x    api.Tape
		keep int
		want api.Tape
	}{
		{tape(0), 0, tape(0)},
		{tape(0), 5, tape(0)},
		{tape(0), most, tape(0)},
		{tape(0, 1, 2, 3), 0, tape(0)},
		{tape(0, 1, 2, 3), 1, tape(1, 1)},
		{tape(0, 1, 2, 3), 3, tape(3, 1, 2, 3)},
		{tape(0, 1, 2, 3), 4, tape(3, 1, 2, 3)},
		{tape(1, 1, 2, 3), 0, tape(1, 1)},
		{tape(1, 1, 2, 3), 1, tape(2, 1, 2)},
		{tape(1, 1, 2, 3), 2, tape(3, 1, 2, 3)},
		{tape(1, 1, 2, 3), 3, tape(3, 1, 2, 3)},
		{tape(1, 1, 2, 3), most, tape(3, 1, 2, 3)},
		{tape(2, 1, 2, 3), most - 1, tape(3, 1, 2, 3)},
		{tape(3, 1, 2, 3), 0, tape(3, 1, 2, 3)},
		{tape(3, 1, 2, 3), 1, tape(3, 1, 2, 3)},
		{tape(3, 1, 2, 3), most, tape(3, 1, 2, 3)},
	} {
		got, e := book.Crash(c.x, c.keep)
		tapeIs(t, "Crash "+short(c.x), got, e, c.want)
	}
	for _, x := range []api.Tape{{}, tape(0, 1, 2), tape(2, 1, 2)} {
		for _, n := range []int{-1, -2, -1 << 31, -1 << 63} {
			got, e := book.Crash(x, n)
			noTape(t, "Crash "+short(x), got, e, api.ErrRange)
		}
	}
}

// P10.8: batches that stand there whole, be they synced or not.
func TestRecover(t *testing.T) {
	l := goodBatches()
	all := records(l...)
	for _, n := range []int{0, 1, 20, len(all) - 1, len(all)} {
		recovers(t, api.Tape{Data: all, Synced: n}, l, len(all), n)
	}
	same := slices.Repeat([]api.Batch{batch(1, create("a"))}, 3)
	recovers(t, api.Tape{Data: records(same...), Synced: 2}, same, 51, 2)
	recovers(t, tape(0), nil, 0, 0)
}

// P10.8: a tape that is cut off somewhere has the batches that stand ahead of that place.
func TestRecoverCut(t *testing.T) {
	l := []api.Batch{batch(1, create("a")), batch(0, add("a", 1, "xyz"), expunge("b")), batch(2, spool("a@b", ""))}
	all := records(l...)
	ends := []int{0, len(records(l[:1]...)), len(records(l[:2]...)), len(all)}
	for n := range len(all) + 1 {
		whole := 0
		for whole < len(l) && ends[whole+1] <= n {
			whole++
		}
		for synced := range n + 1 {
			recovers(t, api.Tape{Data: all[:n], Synced: synced}, l[:whole], ends[whole], min(synced, ends[whole]))
		}
	}
}

// P10.8: what is no batch ends them, whatever stands behind it.
func TestRecoverStops(t *testing.T) {
	first, behind := batch(0, create("a")), batch(1, create("b"))
	between := [][]byte{{0}, {0, 0}, {0, 0, 0}, {0, 0, 1, 0}, {0, 0, 2, 0, 0}, {255, 255, 255}, {0, 1, 0}, {1, 0, 0}, {0, 0, 15}}
	inner := told(first)
	between = append(between, framed(append(slices.Clone(inner), 0)), framed(inner[:len(inner)-1]), slices.Concat([]byte{0, 0, byte(len(inner) + 1)}, inner), slices.Concat([]byte{0, 0, byte(len(inner) - 1)}, inner), slices.Concat([]byte{1, 0, byte(len(inner))}, inner), slices.Concat([]byte{0, 1, byte(len(inner))}, inner), inner)
	for _, w := range wrongBatches() {
		between = append(between, record(w.it))
	}
	for _, l := range between {
		if len(l) > api.MaxBytes {
			t.Fatal(len(l))
		}
		recovers(t, api.Tape{Data: l, Synced: len(l)}, nil, 0, 0)
		all := slices.Concat(record(first), l, record(behind))
		end := len(record(first))
		for _, synced := range []int{0, end - 1, end, end + 1, len(all)} {
			recovers(t, api.Tape{Data: all, Synced: synced}, []api.Batch{first}, end, min(synced, end))
		}
	}
}

// P10.8: a full tape of many batches.
func TestRecoverFull(t *testing.T) {
	one := batch(2, create("a"))
	many := api.MaxBytes / len(record(one))
	all := bytes.Repeat(record(one), many)
	l := slices.Repeat([]api.Batch{one}, many)
	recovers(t, api.Tape{Data: all, Synced: 5}, l, len(all), 5)
	all = append(all, record(one)[:api.MaxBytes-len(all)]...)
	recovers(t, api.Tape{Data: all, Synced: len(all)}, l, many*len(record(one)), many*len(record(one)))
}

// What comes of it: a batch outlasts a crash whole, or not at all; one that was synced does.
func TestOutlasts(t *testing.T) {
	l := []api.Batch{batch(1, create("a"), add("a", 0, "x")), batch(0, flag("a", 9, 1)), batch(2, spool("a@b", "y")), batch(0, expunge("a"))}
	for synced := range len(l) + 1 {
		var x api.Tape
		for i := range len(l) + 1 {
			if i == synced {
				x, _ = book.Sync(x)
			}
			if i < len(l) {
				x, _ = book.Append(x, l[i])
			}
		}
		for keep := range len(x.Data) + 3 {
			y, e := book.Crash(x, keep)
			got, z, f := book.Recover(y)
			if e != api.OK || f != api.OK || len(got) < synced || !slices.EqualFunc(got, l[:len(got)], sameBatch) || !bytes.Equal(z.Data, records(got...)) || z.Synced != len(z.Data) {
				t.Fatalf("of %d batches, %d synced, and %d bytes: %s, %s, %d, %d", len(l), synced, keep, short(got), short(z), e, f)
			}
			if len(x.Data)-x.Synced <= keep && len(got) != len(l) {
				t.Fatalf("nothing is lost, but %d batches are left", len(got))
			}
		}
	}
}
