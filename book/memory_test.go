package book_test

import (
	"bytes"
	"reflect"
	"slices"
	"testing"

	"postroom/api"
	"postroom/book"
)

// roomy: a copy of a list, with something in its spare room.
func roomy[E any](spare E, l ...E) []E {
	return append(append(make([]E, 0, len(l)+40), l...), slices.Repeat([]E{spare}, 40)...)[:len(l)]
}

// overwrite a list, its spare room too.
func overwrite[E any](with E, l []E) {
	for i := range l[:cap(l)] {
		l[:cap(l)][i] = with
	}
}

// overwriteState: all that is in its lists, their spare room too.
func overwriteState(s api.State) {
	for _, b := range s.Boxes[:cap(s.Boxes)] {
		overwrite(mail(99, 99, "overwritten"), b.Mails)
	}
	overwrite(boxOf("overwritten", 99), s.Boxes)
	overwrite(create("overwritten"), s.Spool)
}

// overwriteBatches: all that is in their lists, the spare room too.
func overwriteBatches(l []api.Batch) {
	for _, b := range l[:cap(l)] {
		overwrite(create("overwritten"), b.Entries)
	}
	overwrite(batch(99), l)
}

// roomyBatches with spare room in all their lists.
func roomyBatches(l []api.Batch) []api.Batch {
	l = roomy(batch(77, create("spare")), l...)
	for i, b := range l {
		l[i].Entries = roomy(create("spare"), b.Entries...)
	}
	return l
}

// wholeBatches: all that is in their lists, the spare room too.
func wholeBatches(l []api.Batch) []api.Batch {
	l = slices.Clone(l[:cap(l)])
	for i, b := range l {
		l[i].Entries = slices.Clone(b.Entries[:cap(b.Entries)])
	}
	return l
}

// copyBatches, as they are told.
func copyBatches(l []api.Batch) []api.Batch {
	l = slices.Clone(l)
	for i, b := range l {
		l[i].Entries = slices.Clone(b.Entries)
	}
	return l
}

// copyState, as it is told.
func copyState(s api.State) api.State {
	out := api.State{Boxes: slices.Clone(s.Boxes), Spool: slices.Clone(s.Spool)}
	for i, b := range out.Boxes {
		out.Boxes[i].Mails = slices.Clone(b.Mails)
	}
	return out
}

// Check and Encode leave a batch as it is, and no two answers share memory.
func TestEncodeSharesNothing(t *testing.T) {
	for _, l := range [][]api.Batch{goodBatches(), {batch(0, api.Entry{}), batch(9)}} {
		l = roomyBatches(l)
		kept := wholeBatches(l)
		for _, b := range l {
			book.Check(b)
			first, _ := book.Encode(b)
			second, _ := book.Encode(b)
			want := slices.Clone(second)
			overwrite(9, first)
			if !bytes.Equal(second, want) || !reflect.DeepEqual(wholeBatches(l), kept) {
				t.Errorf("Encode(%s) shares memory, or changes what it is handed", short(b))
			}
		}
	}
}

// Decode leaves its bytes as they are, and its answers do not hang on them.
func TestDecodeSharesNothing(t *testing.T) {
	for _, b := range goodBatches() {
		l := roomy(77, told(b)...)
		kept := slices.Clone(l[:cap(l)])
		first, _ := book.Decode(l)
		second, _ := book.Decode(l)
		overwrite(create("overwritten"), first.Entries)
		if !bytes.Equal(l[:cap(l)], kept) {
			t.Errorf("Decode of %s changes what it is handed", short(b))
		}
		overwrite(99, l)
		if !sameBatch(second, b) {
			t.Errorf("Decode of %s: an answer shares memory: %s", short(b), short(second))
		}
	}
}

// tapeCalls: those that are handed a tape, and answer one.
func tapeCalls() map[string]func(api.Tape) (api.Tape, api.Errno) {
	return map[string]func(api.Tape) (api.Tape, api.Errno){
		"Append":       func(x api.Tape) (api.Tape, api.Errno) { return book.Append(x, batch(0, create("a"))) },
		"Append wrong": func(x api.Tape) (api.Tape, api.Errno) { return book.Append(x, batch(0)) },
		"Sync":         book.Sync,
		"Crash":        func(x api.Tape) (api.Tape, api.Errno) { return book.Crash(x, 5) },
		"Crash all":    func(x api.Tape) (api.Tape, api.Errno) { return book.Crash(x, 1<<40) },
		"Crash none":   func(x api.Tape) (api.Tape, api.Errno) { return book.Crash(x, 0) },
		"Recover": func(x api.Tape) (api.Tape, api.Errno) {
			_, y, e := book.Recover(x)
			return y, e
		},
	}
}

// Tapes that are handed in stay as they are, their spare room too, and those that are answered are new memory.
func TestTapesShareNothing(t *testing.T) {
	for what, call := range tapeCalls() {
		for _, data := range [][]byte{nil, {}, {1}, {1, 2, 3, 4, 5, 6, 7, 8}, records(goodBatches()...), append(records(goodBatches()...), 1, 2, 3)} {
			for _, synced := range []int{0, len(data) / 2, len(data)} {
				x := api.Tape{Data: roomy(77, data...), Synced: synced}
				kept := slices.Clone(x.Data[:cap(x.Data)])
				first, _ := call(x)
				second, _ := call(x)
				want := slices.Clone(second.Data)
				overwrite(99, first.Data)
				if !bytes.Equal(x.Data[:cap(x.Data)], kept) {
					t.Fatalf("%s changes the tape that it is handed, or answers its memory", what)
				}
				overwrite(98, x.Data)
				if !bytes.Equal(second.Data, want) {
					t.Fatalf("%s: an answer shares memory with another, or with what was handed in", what)
				}
			}
		}
	}
}

// Append leaves the batch as it is.
func TestAppendKeepsTheBatch(t *testing.T) {
	l := roomyBatches(goodBatches())
	kept := wholeBatches(l)
	for _, b := range l {
		if _, e := book.Append(tape(1, 1, 2, 3), b); e != api.OK || !reflect.DeepEqual(wholeBatches(l), kept) {
			t.Errorf("Append(%s) changes what it is handed", short(b))
		}
	}
}

// No two lists of what Recover answers share memory, nor with the tape that it was handed.
func TestRecoverSharesNothing(t *testing.T) {
	good := goodBatches()
	x := api.Tape{Data: roomy(77, records(good...)...), Synced: 3}
	kept := slices.Clone(x.Data[:cap(x.Data)])
	for i := range good {
		l, y, _ := book.Recover(x)
		want := copyBatches(l)
		overwrite(create("overwritten"), l[i].Entries)
		l[i].Entries = want[i].Entries
		if !reflect.DeepEqual(l, want) || !bytes.Equal(y.Data, x.Data) {
			t.Fatalf("the entries of batch %d share memory", i)
		}
	}
	l, y, _ := book.Recover(x)
	second, z, _ := book.Recover(x)
	overwriteBatches(l)
	if !bytes.Equal(y.Data, kept[:len(y.Data)]) {
		t.Error("the batches share memory with the tape")
	}
	overwrite(99, y.Data)
	if !bytes.Equal(x.Data[:cap(x.Data)], kept) {
		t.Error("Recover changes the tape that it is handed, or answers its memory")
	}
	overwrite(98, x.Data)
	if !slices.EqualFunc(second, good, sameBatch) || !bytes.Equal(z.Data, kept[:len(z.Data)]) {
		t.Errorf("an answer shares memory with another, or with what was handed in: %s", short(second))
	}
}

// Fold leaves the batches as they are, and its answers are new memory.
func TestFoldSharesNothing(t *testing.T) {
	for _, l := range [][]api.Batch{
		nil,
		{batch(0, create("a"))},
		{batch(0, add("INBOX", 1, "x"), spool("a@b", "y")), batch(0, create("a"), copied("INBOX", 1, "a")), batch(1, create("b"))},
		{batch(0, spool("a@b", "y"), spool("c@d", "y")), batch(0, create("INBOX"))},
		{batch(0, create("a")), batch(0)},
	} {
		l = roomyBatches(l)
		kept := wholeBatches(l)
		first, e := book.Fold(l, 0)
		second, f := book.Fold(l, 0)
		want := copyState(second)
		for i := range second.Boxes {
			overwrite(mail(99, 99, "overwritten"), second.Boxes[i].Mails)
			second.Boxes[i].Mails = want.Boxes[i].Mails
			if !sameState(second, want) {
				t.Errorf("Fold(%s): lists share memory", short(l))
			}
		}
		second, _ = book.Fold(l, 0)
		overwriteState(first)
		if e != f || !reflect.DeepEqual(wholeBatches(l), kept) {
			t.Errorf("Fold(%s) changes what it is handed, or answers its memory", short(l))
		}
		overwriteBatches(l)
		if !sameState(second, want) {
			t.Errorf("Fold: an answer shares memory: %s", short(second))
		}
	}
}
