package post

import (
	"strings"

	"postroom/api"
)

// lineEnd: what stands behind each line that a connection feeds.
const lineEnd = "\r\n"

// conn: a connection.
type conn struct {
	session api.Session
	held    string // what has come, and has not gone to the session yet
	due     []int  // codes that wait for the Sync; none: it does not wait
	told    []int
}

// tell any number of codes.
func (c *conn) tell(codes ...int) { c.told = append(c.told, codes...) }

// waits for the Sync?
func (c *conn) waits() bool { return len(c.due) > 0 }

// begin anew at a Step: just what it was told is left.
func (c *conn) begin(step int) {
	*c = conn{session: api.Session{Step: step}, told: c.told}
}

// hold what has come.
func (c *conn) hold(data string) {
	if c.session.Step == api.Over {
		c.begin(api.Fresh)
	}
	c.held += data
}

// next line that may go to the session. Not ok: there is none, or not yet.
func (c *conn) next() (string, bool) {
	if c.waits() {
		return "", false
	}
	line, rest, ok := strings.Cut(c.held, lineEnd)
	if !ok {
		return "", false
	}
	c.held = rest
	return line, true
}

// answer letters with their codes: at once, or, if one of them waits, at the Sync.
func (c *conn) answer(codes []int, wait bool) {
	if wait {
		c.due = codes
		return
	}
	c.tell(codes...)
}

// release what waits: it is synced.
func (c *conn) release() {
	c.tell(c.due...)
	c.due = nil
}
