package book_test

import (
	"bytes"
	"encoding/binary"
	"slices"
	"testing"

	"postroom/api"
	"postroom/book"
)

// told: the bytes that tell a batch, whether it may be or not, by the chapter's words.
func told(b api.Batch) []byte {
	l := []byte{byte(b.User), byte(len(b.Entries))}
	for _, x := range b.Entries {
		l = append(l, byte(x.Kind), byte(x.Flags), byte(x.Uid/65536), byte(x.Uid/256%256), byte(x.Uid%256))
		l = append(binary.BigEndian.AppendUint16(l, uint16(len(x.Box))), x.Box...)
		l = append(binary.BigEndian.AppendUint16(l, uint16(len(x.To))), x.To...)
		l = append(binary.BigEndian.AppendUint16(l, uint16(len(x.Text))), x.Text...)
	}
	return l
}

// encodes: Encode answers these bytes, and Decode that batch.
func encodes(t *testing.T, b api.Batch, want []byte) {
	t.Helper()
	got, e := book.Encode(b)
	if e != api.OK || !bytes.Equal(got, want) {
		t.Errorf("Encode(%s) = %s, %d; want %s, 0", short(b), short(got), e, short(want))
	}
	back, e := book.Decode(want)
	if e != api.OK || !sameBatch(back, b) {
		t.Errorf("Decode(%s) = %s, %d; want %s, 0", short(want), short(back), e, short(b))
	}
}

// undecoded: Decode answers this error, and nothing else.
func undecoded(t *testing.T, want api.Errno, l []byte) {
	t.Helper()
	if got, e := book.Decode(l); e != want || got.User != 0 || len(got.Entries) != 0 {
		t.Errorf("Decode(%s) of %d bytes = %s, %d; want nothing, %d", short(l), len(l), short(got), e, want)
	}
}

// P10.3, P10.4: each part at its place, byte by byte.
func TestBytes(t *testing.T) {
	encodes(t, batch(1, flag("a", 258, 3)), []byte{1, 1, 3, 3, 0, 1, 2, 0, 1, 97, 0, 0, 0, 0})
	encodes(t, batch(0, create("INBOX")), []byte("\x00\x01\x01\x00\x00\x00\x00\x00\x05INBOX\x00\x00\x00\x00"))
	encodes(t, batch(2, expunge("a")), []byte("\x02\x01\x04\x00\x00\x00\x00\x00\x01a\x00\x00\x00\x00"))
	encodes(t, batch(0, add("a", 31, "xyz")), []byte("\x00\x01\x02\x1f\x00\x00\x00\x00\x01a\x00\x00\x00\x03xyz"))
	encodes(t, batch(0, copied("a", api.MaxUid, "bc")), []byte("\x00\x01\x05\x00\x10\x00\x00\x00\x01a\x00\x02bc\x00\x00"))
	encodes(t, batch(0, spool("a@b", "\x00\xff")), []byte("\x00\x01\x06\x00\x00\x00\x00\x00\x00\x00\x03a@b\x00\x02\x00\xff"))
	encodes(t, batch(0, flag("a", 0x0a0b0c, 0)), []byte("\x00\x01\x03\x00\x0a\x0b\x0c\x00\x01a\x00\x00\x00\x00"))
	encodes(t, batch(2, create("a"), copied("b", 7, "c"), create("d")),
		[]byte("\x02\x03\x01\x00\x00\x00\x00\x00\x01a\x00\x00\x00\x00\x05\x00\x00\x00\x07\x00\x01b\x00\x01c\x00\x00\x01\x00\x00\x00\x00\x00\x01d\x00\x00\x00\x00"))
	for _, n := range []int{255, 256, 257, 1000, api.MaxText} {
		encodes(t, batch(0, add("a", 0, text(n))), []byte("\x00\x01\x02\x00\x00\x00\x00\x00\x01a\x00\x00"+string([]byte{byte(n >> 8), byte(n)})+text(n)))
	}
	for _, b := range goodBatches() {
		encodes(t, b, told(b))
	}
}

// P10.3: what Check refuses is refused with the same error.
func TestEncodeWrong(t *testing.T) {
	l := wrongBatches()
	for _, n := range far {
		l = append(l, refusal[api.Batch]{batch(n, create("a")), api.ErrRange}, refusal[api.Batch]{batch(0, flag("a", n, 0)), api.ErrRange})
	}
	l = append(l, refusal[api.Batch]{batch(0, make([]api.Entry, 300)...), api.ErrSize})
	for _, w := range l {
		if got, e := book.Encode(w.it); e != w.e || len(got) != 0 {
			t.Errorf("Encode(%s) = %s, %d; want nothing, %d", short(w.it), short(got), e, w.e)
		}
	}
}

// P10.4: bytes that end too early, wherever they do, and bytes behind the batch, whatever they are.
func TestDecodeEnds(t *testing.T) {
	undecoded(t, api.ErrShort, nil)
	undecoded(t, api.ErrShort, []byte{})
	for _, b := range goodBatches() {
		l := told(b)
		for n := range l {
			undecoded(t, api.ErrShort, l[:n])
		}
		for _, more := range []string{"\x00", "\xff", "\x00\x00", text(1000), string(l)} {
			undecoded(t, api.ErrForm, slices.Concat(l, []byte(more)))
		}
	}
}

// P10.4: what Check refuses is told behind all that is wrong with the number of the bytes.
func TestDecodeWrong(t *testing.T) {
	for _, w := range wrongBatches() {
		l := told(w.it)
		undecoded(t, w.e, l)
		undecoded(t, api.ErrForm, append(l, 0))
		for n := 0; n < len(l); n += 1 + n/50 {
			undecoded(t, api.ErrShort, l[:n])
		}
		undecoded(t, api.ErrShort, l[:len(l)-1])
	}
	undecoded(t, api.ErrRange, []byte{3, 0})
	undecoded(t, api.ErrSize, []byte{2, 0})
	undecoded(t, api.ErrForm, []byte{2, 0, 0})
	undecoded(t, api.ErrForm, []byte{255, 0, 1, 2, 3})
	undecoded(t, api.ErrShort, []byte{255, 255})
	undecoded(t, api.ErrShort, []byte("\x00\x01\x01\x00\x00\x00\x00\xff\xff"))
	undecoded(t, api.ErrShort, []byte("\x00\x02\x01\x00\x00\x00\x00\x00\x01a\x00\x00\x00\x00"))
}

// P10.4: more than MaxBytes is refused ahead of all else.
func TestDecodeSize(t *testing.T) {
	start := told(batch(0, create("a")))
	filled := func(start []byte, n int) []byte { return append(slices.Clone(start), make([]byte, n-len(start))...) }
	undecoded(t, api.ErrForm, filled(start, api.MaxBytes))
	undecoded(t, api.ErrShort, bytes.Repeat([]byte{255}, api.MaxBytes))
	for _, n := range []int{api.MaxBytes + 1, api.MaxBytes + 2, 10 * api.MaxBytes} {
		undecoded(t, api.ErrSize, filled(start, n))
		undecoded(t, api.ErrSize, filled([]byte{255}, n))
		undecoded(t, api.ErrSize, bytes.Repeat([]byte{255}, n))
	}
	// Just MaxBytes bytes, which are a batch of 10 entries that are too long: what is refused is the first one's Text.
	b := batch(0, slices.Repeat([]api.Entry{add("a", 0, text(9988))}, api.MaxBatch)...)
	b.Entries[9].Text = text(9986)
	if n := len(told(b)); n != api.MaxBytes {
		t.Fatalf("%d bytes", n)
	}
	undecoded(t, api.ErrSize, told(b))
	b.Entries[0] = api.Entry{Text: text(9988)}
	undecoded(t, api.ErrKind, told(b))
}
