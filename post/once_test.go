package post_test

import (
	"math/rand/v2"
	"slices"
	"testing"

	"postroom/api"
)

// answers of one connection: by the letter's number, of which it is told by so many unknown commands ahead of it, less one.
func answers(codes []int, to map[int]int) {
	n := -1
	for i, c := range codes {
		switch {
		case c == 500 && (i == 0 || codes[i-1] != 500):
			n = 0
		case c == 500:
			n++
		case i > 0 && codes[i-1] == 354:
			to[n] = c
		}
	}
}

// numbered letter: it begins with so many unknown commands, and one more. There is no room for many of them; each fifth is no message.
func numbered(conn, n int) api.Act {
	field := "n: " + string(rune('A'+n))
	if n%5 == 4 {
		field = "nothing"
	}
	return feed(conn, slices.Concat(slices.Repeat([]string{"x"}, n+1), begun("ann"), []string{field, ""}, lines(700), []string{"."})...)
}

// What comes of it: whatever happens, a letter that was answered by 250 is there just once and stays; one that was answered otherwise is nowhere.
func TestOnceAndForEver(t *testing.T) {
	d := drawer{rand.New(rand.NewPCG(13, 4))}
	came := map[int]int{}
	for range 150 {
		var l []api.Act
		answered := map[int]int{}
		n := 0
		for len(l) < 60 {
			switch d.IntN(8) {
			case 0, 1, 2, 3:
				if n < 40 {
					l = append(l, numbered(d.IntN(3), n))
					n++
				}
			case 4:
				l = append(l, sync)
			case 5:
				l = append(l, crash(one(d, 0, 30, 60, 1000)))
			default:
				l = append(l, start)
			}
			o := run(t, []api.User{ann}, l...)
			for _, codes := range o.Codes {
				answers(codes, answered)
			}
			found := map[int]int{}
			for _, m := range o.States[0].Boxes[0].Mails {
				found[int(m.Text[3]-'A')]++
			}
			for i := range n {
				if code := answered[i]; code == 250 && found[i] != 1 || code > 250 && found[i] != 0 || found[i] > 1 {
					t.Fatalf("letter %d was answered by %d, and is there %d times: %s", i, code, found[i], short(o))
				}
				came[answered[i]]++
			}
		}
	}
	for _, code := range []int{0, 250, 452, 554} {
		if came[code] < 1000 {
			t.Errorf("answered by %d: %d times", code, came[code])
		}
	}
}
