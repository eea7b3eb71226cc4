package post

import (
	"postroom/api"
	"postroom/box"
	"postroom/lmtp"
)

// room: a postroom at work.
type room struct {
	up      bool
	ledger  ledger
	conns   [api.MaxConns]conn
	locals  []string        // of each user
	scripts [][]api.Command // of each user
	orders  [][]api.Errno   // what each user was told
	due     []int           // whose orders wait for the Sync
}

// do an act that may be.
func (r *room) do(a api.Act) {
	switch {
	case a.Kind == api.Start:
		r.up = true
	case a.Kind == api.Order && a.User < len(r.locals):
		r.order(a.User, a.Entry)
	case !r.up: // nobody is there to take what else may come
	case a.Kind == api.Feed && a.Data != "":
		r.conns[a.Conn].hold(a.Data)
		r.work(&r.conns[a.Conn])
	case a.Kind == api.Sync:
		r.sync()
	case a.Kind == api.Crash:
		r.crash(a.Keep)
	}
}

// sync what waits. All are told so ahead of the first one's work, which may let it wait anew.
func (r *room) sync() {
	r.ledger.sync()
	for _, user := range r.due {
		r.tellUser(user, api.OK)
	}
	r.due = nil
	for i := range r.conns {
		r.conns[i].release()
	}
	for i := range r.conns {
		r.work(&r.conns[i])
	}
}

// crash: who waits for something is not told of it any more.
func (r *room) crash(keep int) {
	r.up, r.due = false, nil
	r.ledger.crash(keep)
	for i := range r.conns {
		r.conns[i].begin(api.Fresh)
	}
}

// order of a user: what is wrong with it is told at once, that it is done at the Sync.
func (r *room) order(user int, x api.Entry) {
	if e := r.tryOrder(user, x); e != api.OK {
		r.tellUser(user, e)
		return
	}
	r.due = append(r.due, user)
}

// tryOrder: an entry that is a batch of its own.
func (r *room) tryOrder(user int, x api.Entry) api.Errno {
	if !r.up {
		return api.ErrState
	}
	if e := box.Form(x); e != api.OK {
		return e
	}
	if x.Kind == api.Spool {
		return api.ErrKind
	}
	next, e := box.Apply(r.ledger.states[user], x)
	if e != api.OK {
		return e
	}
	return r.ledger.add(api.Batch{User: user, Entries: []api.Entry{x}}, next)
}

// tellUser what became of an order.
func (r *room) tellUser(user int, e api.Errno) {
	r.orders[user] = append(r.orders[user], e)
}

// work of a connection: line by line, until it waits or has no whole one.
func (r *room) work(c *conn) {
	for {
		line, ok := c.next()
		if !ok {
			break
		}
		r.read(c, line)
	}
	if len(c.held) > api.MaxHeld {
		c.begin(api.Over)
	}
}

// read a line that a connection sent.
func (r *room) read(c *conn, line string) {
	// Behind its last line the session knows no more whether the letter was too long.
	large := c.session.Large
	next, code, letters, _ := lmtp.Line(c.session, r.locals, line)
	c.session = next
	if code != 0 {
		c.tell(code)
	}
	c.answer(r.take(letters, large))
	if next.Step == api.Over {
		c.begin(api.Over)
	}
}

// outcome of what was done so far.
func (r *room) outcome() api.Outcome {
	o := api.Outcome{Up: r.up, Orders: r.orders, States: r.ledger.safe, Waits: r.ledger.waits}
	for _, c := range r.conns {
		o.Codes = append(o.Codes, c.told)
	}
	return o
}
