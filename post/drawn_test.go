package post_test

import (
	"bytes"
	"math/rand/v2"
	"slices"
	"strings"
	"testing"

	"postroom/api"
	"postroom/book"
	"postroom/box"
	"postroom/deliver"
	"postroom/lmtp"
	"postroom/post"
	"postroom/rule"
)

// wire: a connection, by the chapter's words.
type wire struct {
	session api.Session
	holds   []byte
	waits   bool
	codes   []int
	told    []int
}

// telling: a postroom by the chapter's words. It keeps all batches, and folds them each time.
type telling struct {
	users   []api.User
	up      bool
	tape    api.Tape
	batches []api.Batch
	synced  int // batches
	wires   [3]wire
	orders  [][]api.Errno
	waiting []int          // who has ordered what waits
	came    map[string]int // what has happened
}

// begin of a telling.
func begin(users []api.User, came map[string]int) *telling {
	return &telling{users: users, up: true, orders: make([][]api.Errno, len(users)), came: came}
}

// act by act.
func (w *telling) act(a api.Act) {
	if a.Kind == api.Start {
		w.up = true
	} else if a.Kind == api.Order {
		w.order(a.User, a.Entry)
	} else if !w.up {
		w.came["down"]++
	} else if a.Kind == api.Feed {
		w.feed(&w.wires[a.Conn], a.Data)
	} else if a.Kind == api.Sync {
		w.sync()
	} else {
		w.crash(a.Keep)
	}
}

func (w *telling) feed(c *wire, data string) {
	if data == "" {
		return
	}
	if c.session.Step == api.Over {
		w.came["fresh again"]++
		c.session, c.holds = api.Session{}, nil
	}
	c.holds = append(c.holds, data...)
	w.work(c)
}

func (w *telling) sync() {
	w.tape, _ = book.Sync(w.tape)
	w.synced = len(w.batches)
	for _, u := range w.waiting {
		w.orders[u] = append(w.orders[u], api.OK)
	}
	w.waiting = nil
	for i := range w.wires {
		c := &w.wires[i]
		c.told = append(c.told, c.codes...)
		c.waits, c.codes = false, nil
	}
	for i := range w.wires {
		w.work(&w.wires[i])
	}
}

func (w *telling) crash(keep int) {
	before := len(w.batches)
	w.tape, _ = book.Crash(w.tape, keep)
	length := len(w.tape.Data)
	w.batches, w.tape, _ = book.Recover(w.tape)
	if len(w.batches) < before && len(w.batches) > w.synced {
		w.came["some kept"]++
	}
	if length > len(w.tape.Data) {
		w.came["cut off"]++
	}
	w.synced, w.up, w.waiting = len(w.batches), false, nil
	for i := range w.wires {
		if w.wires[i].waits {
			w.came["never told"]++
		}
		w.wires[i] = wire{told: w.wires[i].told}
	}
}

func (w *telling) work(c *wire) {
	for !c.waits {
		n := bytes.Index(c.holds, []byte{13, 10})
		if n < 0 {
			break
		}
		line := string(c.holds[:n])
		c.holds = c.holds[n+2:]
		w.line(c, line)
		if c.session.Step == api.Over {
			c.holds = nil
		}
	}
	if len(c.holds) > 3000 {
		if w.came["held"]++; c.waits {
			w.came["held and waits"]++
		}
		*c = wire{session: api.Session{Step: api.Over}, told: c.told}
	}
}

func (w *telling) line(c *wire, line string) {
	var known []string
	for _, u := range w.users {
		known = append(known, u.Local)
	}
	large := c.session.Large
	next, code, l, e := lmtp.Line(c.session, known, line)
	if e != api.OK {
		panic(e)
	}
	c.session = next
	if code != 0 {
		c.told = append(c.told, code)
	}
	var told []int
	for _, x := range l {
		code, waits := w.letter(x, large)
		told = append(told, code)
		c.waits = c.waits || waits
	}
	if c.waits {
		c.codes = told
	} else {
		c.told = append(c.told, told...)
	}
}

func (w *telling) letter(x api.Letter, large bool) (int, bool) {
	if large {
		return 552, false
	}
	u := slices.IndexFunc(w.users, func(u api.User) bool { return u.Local == x.To.Local })
	s, _ := book.Fold(w.batches, u)
	cs, _ := rule.Read(w.users[u].Script)
	l, _, e := deliver.Deliver(s, x, cs)
	if e == api.ErrFull {
		w.came["no room"]++
		return 452, false
	} else if e != api.OK {
		return 554, false
	} else if len(l) == 0 {
		w.came["no entries"]++
		return 250, false
	}
	if w.write(api.Batch{User: u, Entries: l}) != api.OK {
		w.came["letters that could not wait"]++
		return 452, false
	}
	return 250, true
}

// write a batch on the tape.
func (w *telling) write(b api.Batch) api.Errno {
	if len(w.batches)-w.synced >= 8 {
		return api.ErrFull
	}
	t, e := book.Append(w.tape, b)
	if e != api.OK {
		w.came["tape full"]++
		return e
	}
	w.tape, w.batches = t, append(w.batches, b)
	return api.OK
}

func (w *telling) order(u int, x api.Entry) {
	if u >= len(w.users) {
		w.came["nobody ordered"]++
		return
	}
	e := api.ErrState
	if w.up {
		s, _ := book.Fold(w.batches, u)
		_, e = box.Apply(s, x)
		if f := box.Form(x); f != api.OK {
			e = f
		} else if x.Kind == api.Spool {
			e = api.ErrKind
		}
		if e == api.OK {
			e = w.write(api.Batch{User: u, Entries: []api.Entry{x}})
		}
	}
	if e != api.OK {
		w.orders[u] = append(w.orders[u], e)
		return
	}
	w.waiting = append(w.waiting, u)
}

// outcome of the telling.
func (w *telling) outcome() api.Outcome {
	o := api.Outcome{Up: w.up, Orders: w.orders, Waits: len(w.batches) - w.synced}
	for _, c := range w.wires {
		o.Codes = append(o.Codes, c.told)
	}
	for u := range w.users {
		s, _ := book.Fold(w.batches[:w.synced], u)
		o.States = append(o.States, s)
	}
	return o
}

// drawer of scripts.
type drawer struct{ *rand.Rand }

// one of some.
func one[E any](d drawer, l ...E) E { return l[d.IntN(len(l))] }

// users with scripts.
func (d drawer) users() []api.User {
	var l []api.User
	for _, s := range []string{"ann", "bob", "cid"}[:1+d.IntN(3)] {
		l = append(l, scripted(s, one(d, "", "keep;", "discard;", `fileinto "a"; keep;`, `redirect "sue@x"; keep;`, `reject "no";`,
			`if header "s" "t" { discard; } else { setflag "\\Seen"; fileinto "b"; }`, `if size :over 500 { discard; stop; } addflag "\\Deleted"; fileinto "a"; redirect "x@y";`)))
	}
	return l
}

// piece of what a connection sends.
func (d drawer) piece() string {
	switch d.IntN(14) {
	case 0:
		return one(d, "QUIT", "NOOP", "RSET", "HELP", "DATA", "LHLO b", "") + "\r\n"
	case 1:
		if d.IntN(3) == 0 {
			return strings.Repeat("x", d.IntN(5000)) + one(d, "", "\r\n")
		}
	}
	l := []string{one(d, "LHLO a", "LHLO a", "RSET"), "MAIL FROM:<" + one(d, "joe", "sue") + "@z>"}
	for range 1 + d.IntN(4) {
		l = append(l, "RCPT TO:<"+one(d, "ann", "bob", "cid", "dan")+"@"+one(d, "y", "z", "q")+">")
	}
	l = append(l, "DATA", one(d, "s: t", "s: u", "x: y", "s: t", "no field"), one(d, "", "", "", "", "a: b"))
	for range d.IntN(4) {
		l = append(l, strings.Repeat(one(d, ".", "b"), d.IntN(one(d, 3, 30, 300, 1500, 1500))))
	}
	return strings.Join(append(l, ".", one(d, "NOOP", "QUIT", "RSET")), "\r\n") + "\r\n"
}

// entry that a user orders; mostly it may be.
func (d drawer) entry() api.Entry {
	name, uid := one(d, "INBOX", "INBOX", "a", "b"), 1+d.IntN(8)
	switch d.IntN(20) {
	case 0, 1, 2:
		return create(one(d, "a", "b", "c", "d", "e"))
	case 3, 4, 5:
		return api.Entry{Kind: api.Append, Box: name, Flags: one(d, 0, 1, 8), Text: strings.Repeat("o", d.IntN(one(d, 3, 300, 2100)))}
	case 6, 7, 8, 9:
		return api.Entry{Kind: api.Flag, Box: name, Uid: uid, Flags: one(d, 1, 8, 8, 8)}
	case 10, 11, 12:
		return api.Entry{Kind: api.Expunge, Box: name}
	case 13, 14:
		return api.Entry{Kind: api.Copy, Box: name, Uid: uid, To: one(d, "INBOX", "a", "b")}
	case 15:
		return api.Entry{Kind: api.Spool, To: one(d, "a@b", "a@b", "a"), Text: "x"}
	case 16:
		return api.Entry{Kind: d.IntN(9) - 1, Box: one(d, "a", "a b", ""), Uid: d.IntN(2), Flags: one(d, 0, 31, 32)}
	}
	return written("x")
}

// acts of a script: feeds cut what comes at any place.
func (d drawer) acts(n int) []api.Act {
	var l []api.Act
	var comes [3]string
	syncs := 1 + d.IntN(20)
	for range n {
		switch k := d.IntN(100); {
		case k < 55:
			c := d.IntN(3)
			for len(comes[c]) < 3000 {
				comes[c] += d.piece()
			}
			cut := one(d, 0, d.IntN(10), d.IntN(300), d.IntN(1000), d.IntN(3001))
			l = append(l, raw(c, comes[c][:cut]))
			comes[c] = comes[c][cut:]
		case k < 55+syncs:
			l = append(l, sync)
		case k < 80:
			l = append(l, order(d.IntN(3), d.entry()))
		case k < 81:
			l = append(l, crash(one(d, 0, d.IntN(300), d.IntN(3000), api.MaxBytes)))
		default:
			l = append(l, start)
		}
	}
	return l
}

// P13.2 to P13.6: drawn scripts go as the chapter's words tell, as far as one looks at them.
func TestDrawn(t *testing.T) {
	d := drawer{rand.New(rand.NewPCG(13, 1))}
	came, toldCodes, toldOrders := map[string]int{}, map[int]int{}, map[api.Errno]int{}
	for range 1500 {
		users, l := d.users(), d.acts(d.IntN(300))
		w := begin(users, came)
		for _, a := range l {
			w.act(a)
		}
		want := w.outcome()
		got, e := post.Run(users, l)
		if e != api.OK || text(got) != text(want) {
			t.Fatalf("Run(%+v, %+v) = %+v, %d; want %+v, 0", users, l, got, e, want)
		}
		for _, c := range slices.Concat(got.Codes...) {
			toldCodes[c]++
		}
		for _, e := range slices.Concat(got.Orders...) {
			toldOrders[e]++
		}
	}
	for _, c := range []int{221, 250, 354, 452, 500, 503, 550, 552, 554} {
		if toldCodes[c] < 50 {
			t.Errorf("%d came up %d times", c, toldCodes[c])
		}
	}
	for _, e := range []api.Errno{api.OK, api.ErrKind, api.ErrForm, api.ErrFull, api.ErrRange, api.ErrNone, api.ErrTwice, api.ErrState} {
		if toldOrders[e] < 10 {
			t.Errorf("error %d came up %d times", e, toldOrders[e])
		}
	}
	for _, s := range []string{"down", "fresh again", "some kept", "cut off", "never told", "held", "held and waits", "no room", "no entries", "letters that could not wait", "nobody ordered"} {
		if came[s] < 20 {
			t.Errorf("%s: came up %d times", s, came[s])
		}
	}
}

// P13.2 to P13.6: a long script, at whose end the tape is full.
func TestDrawnLong(t *testing.T) {
	d := drawer{rand.New(rand.NewPCG(13, 2))}
	came := map[string]int{}
	for range 4 {
		users := []api.User{ann, bob, cid}
		w := begin(users, came)
		var l []api.Act
		for _, a := range d.acts(900) {
			l = append(l, a, start)
			if d.IntN(3) == 0 {
				l = append(l, order(d.IntN(3), api.Entry{Kind: api.Append, Box: "INBOX", Flags: api.Deleted, Text: strings.Repeat("o", d.IntN(2000))}), order(d.IntN(3), api.Entry{Kind: api.Expunge, Box: "INBOX"}))
			}
		}
		for _, a := range l {
			w.act(a)
		}
		if got, e := post.Run(users, l); e != api.OK || text(got) != text(w.outcome()) {
			t.Fatalf("%s, %d; want %s", short(got), e, short(w.outcome()))
		}
	}
	if came["tape full"] < 20 {
		t.Errorf("the tape was full %d times", came["tape full"])
	}
}

// P13.1: drawn acts may be, or not, as the chapter's words tell.
func TestActsDrawn(t *testing.T) {
	d := drawer{rand.New(rand.NewPCG(13, 3))}
	came := map[api.Errno]int{}
	for range 200000 {
		a := api.Act{Kind: d.IntN(8) - 1}
		few := func(l ...int) int {
			if d.IntN(4) > 0 {
				return 0
			}
			return one(d, l...)
		}
		a.Conn, a.User, a.Keep = few(-1, 1, 2, 3), few(-1, 1, 2, 3), few(-1, 1, 100000, 100001)
		a.Data = strings.Repeat("x", few(1, 2999, 3000, 3001))
		if few(1) == 1 {
			a.Entry = one(d, create("a"), api.Entry{Text: "x"}, api.Entry{Uid: -1})
		}
		want := api.OK
		isFeed, isCrash, isOrder := a.Kind == 1, a.Kind == 3, a.Kind == 5
		if a.Kind < 1 || a.Kind > 5 {
			want = api.ErrKind
		} else if isFeed && (a.Conn < 0 || a.Conn > 2) || isCrash && (a.Keep < 0 || a.Keep > 100000) || isOrder && (a.User < 0 || a.User > 2) {
			want = api.ErrRange
		} else if isFeed && len(a.Data) > 3000 {
			want = api.ErrSize
		} else if !isFeed && (a.Conn != 0 || a.Data != "") || !isCrash && a.Keep != 0 || !isOrder && (a.User != 0 || a.Entry != api.Entry{}) {
			want = api.ErrForm
		}
		if e := post.Check(a); e != want {
			t.Fatalf("Check(%s) = %d; want %d", short(a), e, want)
		}
		came[want]++
	}
	for _, e := range []api.Errno{api.OK, api.ErrKind, api.ErrRange, api.ErrSize, api.ErrForm} {
		if came[e] < 500 {
			t.Errorf("error %d came up %d times", e, came[e])
		}
	}
}
