package lmtp_test

import (
	"slices"
	"strings"
	"testing"

	"postroom/api"
	"postroom/who"
)

// P12.3: LHLO, at each Step where a command may come.
func TestGreet(t *testing.T) {
	for _, s := range commanded() {
		for _, name := range []string{"a", "a.b", "A.B-c", "x", "1", "!#$%&'*+-/=?^_`{|}~", strings.Repeat("d", api.MaxPattern-2)} {
			goes(t, s, "LHLO "+name, at(api.Ready), 250)
			goes(t, s, "lhlo "+name, at(api.Ready), 250)
		}
		for _, name := range []string{"", " ", " a", "a ", "a b", ".", "a.", ".a", "a..b", "a@b", "<a>", "[1]", "\ta", "a\r\n", "a\x00", "\xff", `"a"`, "a,b", strings.Repeat("d", api.MaxPattern-1), strings.Repeat("d", api.MaxLine-5)} {
			stays(t, s, "LHLO "+name, 501)
		}
		for _, line := range []string{"LHLO", "LHL", "LHLOa", "LHLO.a", "LHLO:a", "LHLO\ta", " LHLO a", "HELO a", "EHLO a", "LHLOO a", "LHLO\x00a", "LHLO\r\n"} {
			stays(t, s, line, 500)
		}
	}
}

// P12.3: MAIL FROM: is taken in its turn alone; that comes ahead of its address.
func TestSender(t *testing.T) {
	for _, s := range commanded() {
		if s.Step != api.Ready {
			for _, text := range []string{"<joe@z>", "<ann@y>", "joe", "", "<>", strings.Repeat("x", api.MaxLine-10)} {
				stays(t, s, "MAIL FROM:"+text, 503)
			}
		}
		for _, line := range []string{"MAIL FROM", "MAIL", "MAIL FROM <joe@z>", "MAIL  FROM:<joe@z>", "MAILFROM:<joe@z>", "MAIL\tFROM:<joe@z>", " MAIL FROM:<joe@z>", "MAIL TO:<joe@z>", "FROM:<joe@z>"} {
			stays(t, s, line, 500)
		}
	}
	for _, line := range []string{"MAIL FROM:<joe@z>", "mail from:<joe@z>", "Mail From:<joe@z>", "mAIL fROM:<joe@z>"} {
		goes(t, at(api.Ready), line, from(), 250)
	}
	// Of the address no letter becomes a small one, and it need not be known.
	goes(t, at(api.Ready), "mail from:<JOE.x@Z.y>", api.Session{Step: api.Sender, From: address("JOE.x", "Z.y")}, 250)
	goesFor(t, at(api.Ready), nil, "MAIL FROM:<joe@z>", from(), 250)
}

// wrongTexts: what is no address of a command.
var wrongTexts = []string{
	"", " ", "x", "joe@z", "<joe@z", "joe@z>", "<", ">", "<>", "><", "<@>", "<@z>", "<joe@>", "<joe>", "<joe@z>>", "<<joe@z>", "<<joe@z>>", "<joe@z@y>", "<joe@@z>", ">joe@z<",
	" <joe@z>", "<joe@z> ", "\t<joe@z>", "<joe@z>\t", "< joe@z>", "<joe@z >", "<joe @z>", "<joe@ z>", "<joe@z>\r\n", "<joe@z>\r", "\n<joe@z>", "<joe@z>\x00",
	"Joe <joe@z>", "joe<joe@z>", `"joe"<joe@z>`, `"" <joe@z>`, `<"joe"@z>`, "<joe@z>,<ann@y>", "<joe@z>,", ",<joe@z>", "<joe@z,ann@y>", "<joe@z>x", "<joe@z> SIZE=9", "<joe@z><ann@y>",
	"<joe.@z>", "<.joe@z>", "<jo..e@z>", "<joe@z.>", "<joe@.z>", "<joe@[z]>", "<joe@z\xff>", "<(x)joe@z>", "<jo\\e@z>", "<joe:x@z>",
	"<" + strings.Repeat("l", 50) + "@" + strings.Repeat("d", 50) + ">", "<" + strings.Repeat("l", 200) + "@z>",
}

// P12.2, P12.3: what is no address, behind MAIL FROM: and RCPT TO:.
func TestNoAddresses(t *testing.T) {
	for _, text := range wrongTexts {
		stays(t, at(api.Ready), "MAIL FROM:"+text, 501)
		for _, s := range []api.Session{from(), to(ann), to(five()...)} {
			stays(t, s, "RCPT TO:"+strings.ReplaceAll(text, "joe", "ann"), 501)
		}
	}
}

// P12.2: each byte at each place of an address that may not be one of an atom, or a dot.
func TestBytesOfAddresses(t *testing.T) {
	for i := range 256 {
		c := string([]byte{byte(i)})
		for _, form := range []string{"%<a@b>", "<%a@b>", "<a%c@b>", "<a%@b>", "<a@%b>", "<a@b%c>", "<a@b%>", "<a@b>%"} {
			text := strings.Replace(form, "%", c, 1)
			inner, ok := strings.CutPrefix(text, "<")
			inner, closed := strings.CutSuffix(inner, ">")
			local, domain, at1 := strings.Cut(inner, "@")
			a := address(local, domain)
			if ok && closed && at1 && who.Check(a) == api.OK {
				goes(t, at(api.Ready), "MAIL FROM:"+text, api.Session{Step: api.Sender, From: a}, 250)
				goesFor(t, from(), []string{local}, "RCPT TO:"+text, to(a), 250)
				continue
			}
			stays(t, at(api.Ready), "MAIL FROM:"+text, 501)
			goesFor(t, from(), []string{"a", local, "a" + c, c + "a"}, "RCPT TO:"+text, from(), 501)
		}
	}
}

// P12.2: an address may have so many bytes.
func TestLongAddresses(t *testing.T) {
	for _, n := range []int{1, 49, 50, api.MaxPattern - 2} {
		a := address(strings.Repeat("l", n), strings.Repeat("d", api.MaxPattern-1-n))
		goes(t, at(api.Ready), "MAIL FROM:<"+a.Local+"@"+a.Domain+">", api.Session{Step: api.Sender, From: a}, 250)
		goesFor(t, from(), []string{a.Local}, "RCPT TO:<"+a.Local+"@"+a.Domain+">", to(a), 250)
		stays(t, at(api.Ready), "MAIL FROM:<"+a.Local+"@"+a.Domain+"d>", 501)
		goesFor(t, from(), []string{a.Local}, "RCPT TO:<"+a.Local+"@"+a.Domain+"d>", from(), 501)
	}
}

// P12.3: RCPT TO: is taken in its turn alone; that comes ahead of its address.
func TestGoal(t *testing.T) {
	for _, s := range commanded() {
		if s.Step != api.Sender && s.Step != api.Rcpt {
			for _, text := range []string{"<ann@y>", "<dan@y>", "x", "", "<>"} {
				stays(t, s, "RCPT TO:"+text, 503)
			}
		}
		for _, line := range []string{"RCPT TO", "RCPT", "RCPT TO <ann@y>", "RCPT  TO:<ann@y>", "RCPTTO:<ann@y>", "RCPT\tTO:<ann@y>", " RCPT TO:<ann@y>", "RCPT FROM:<ann@y>", "TO:<ann@y>"} {
			stays(t, s, line, 500)
		}
	}
	for _, line := range []string{"RCPT TO:<ann@y>", "rcpt to:<ann@y>", "Rcpt To:<ann@y>", "rCPT tO:<ann@y>"} {
		goes(t, from(), line, to(ann), 250)
		goes(t, to(bob), line, to(bob, ann), 250)
	}
}

// P12.3: those that are known, byte by byte, by their Local alone.
func TestKnown(t *testing.T) {
	for _, s := range []api.Session{from(), to(bob), to(five()...)} {
		for _, text := range []string{"<dan@y>", "<Ann@y>", "<ANN@y>", "<an@y>", "<anna@y>", "<y@ann>", "<ann.ann@y>", "<joe@z>"} {
			stays(t, s, "RCPT TO:"+text, 550)
		}
		for _, l := range [][]string{nil, {}, {""}, {"y"}, {"ann@y"}, {"<ann@y>"}, {"ANN"}, {"an", "n"}, {"ann "}, {"*"}} {
			goesFor(t, s, l, "RCPT TO:<ann@x>", s, 550)
			goesFor(t, s, l, "RCPT TO:<@y>", s, 501)
		}
	}
	goes(t, from(), "RCPT TO:<ann@q.r>", to(address("ann", "q.r")), 250)
	goesFor(t, from(), []string{"x", "y", "A.n"}, "RCPT TO:<A.n@B>", to(address("A.n", "B")), 250)
	goesFor(t, from(), []string{"ann", "ann"}, "RCPT TO:<ann@y>", to(ann), 250)
	goesFor(t, from(), append(slices.Repeat([]string{"x"}, 1<<16), "ann"), "RCPT TO:<ann@y>", to(ann), 250)
	// One that stands there, and is known no longer, is told so.
	goesFor(t, to(ann), []string{"bob"}, "RCPT TO:<ann@y>", to(ann), 550)
}

// P12.3: one that is there already, and one for whom there is no room; an unknown one is told ahead of both.
func TestRoomForGoals(t *testing.T) {
	all := five()
	s := from()
	for i, a := range all {
		line := "RCPT TO:<" + a.Local + "@" + a.Domain + ">"
		goes(t, s, line, to(all[:i+1]...), 250)
		s = to(all[:i+1]...)
		for _, b := range all[:i+1] {
			stays(t, s, "RCPT TO:<"+b.Local+"@"+b.Domain+">", 250)
		}
	}
	for _, text := range []string{"<bob@Y>", "<ann@a.B>", "<cid@z>"} {
		stays(t, s, "RCPT TO:"+text, 452)
	}
	stays(t, s, "RCPT TO:<dan@y>", 550)
	stays(t, s, "RCPT TO:ann@y", 501)
}

// P12.3: DATA, and what comes of it.
func TestData(t *testing.T) {
	for _, s := range commanded() {
		for _, line := range []string{"DATA", "data", "Data", "dAtA"} {
			if s.Step == api.Rcpt {
				goes(t, s, line, body("", s.To...), 354)
				continue
			}
			stays(t, s, line, 503)
		}
	}
}

// P12.3: RSET leaves nothing but whether the session is Fresh.
func TestReset(t *testing.T) {
	for _, s := range commanded() {
		want := api.Ready
		if s.Step == api.Fresh {
			want = api.Fresh
		}
		for _, line := range []string{"RSET", "rset", "Rset"} {
			goes(t, s, line, at(want), 250)
		}
	}
}

// P12.3: NOOP changes nothing, QUIT ends all.
func TestNoopAndQuit(t *testing.T) {
	for _, s := range commanded() {
		for _, line := range []string{"NOOP", "noop", "nOOp"} {
			stays(t, s, line, 250)
		}
		for _, line := range []string{"QUIT", "quit", "quiT"} {
			goes(t, s, line, at(api.Over), 221)
		}
	}
}

// P12.3: what begins as no command; the last four are the whole line.
func TestNoCommands(t *testing.T) {
	for _, s := range commanded() {
		for _, line := range []string{"", " ", ".", "..", "x", "a: b", "HELP", "VRFY ann", "\r\n", "\x00", "\xff", "MAIL", "RCPT", ":", "<joe@z>"} {
			stays(t, s, line, 500)
		}
		for _, word := range []string{"DATA", "RSET", "NOOP", "QUIT"} {
			for _, line := range []string{word + " ", " " + word, word + "x", word + " x", word + "\t", word + ".", word + "\r", word + "\r\n", word + "\x00", word + word, word[:3], word[1:]} {
				stays(t, s, line, 500)
			}
		}
	}
}

// P12.2: words may be of great or small letters, and of nothing that is like these: each byte at each place of a word.
func TestBytesOfWords(t *testing.T) {
	for _, c := range []struct {
		s         api.Session
		word, end string
		code      int
	}{
		{at(api.Ready), "LHLO ", "a", 250}, {at(api.Ready), "MAIL FROM:", "<joe@z>", 250}, {from(), "RCPT TO:", "<ann@y>", 250},
		{to(ann), "DATA", "", 354}, {to(ann), "RSET", "", 250}, {to(ann), "NOOP", "", 250}, {to(ann), "QUIT", "", 221},
	} {
		want := map[bool]api.Session{false: c.s}
		switch c.word {
		case "LHLO ", "RSET":
			want[true] = at(api.Ready)
		case "MAIL FROM:":
			want[true] = from()
		case "RCPT TO:":
			want[true] = to(ann)
		case "DATA":
			want[true] = body("", ann)
		case "NOOP":
			want[true] = c.s
		case "QUIT":
			want[true] = at(api.Over)
		}
		for i := range len(c.word) {
			for b := range 256 {
				is, code := byte(b) == c.word[i] || 'A' <= c.word[i] && c.word[i] <= 'Z' && byte(b) == c.word[i]+32, c.code
				if !is {
					code = 500
				}
				goes(t, c.s, c.word[:i]+string([]byte{byte(b)})+c.word[i+1:]+c.end, want[is], code)
			}
		}
	}
	// Letters of other alphabets, which become these in some ways to fold.
	for _, line := range []string{"R\u017fET", "MA\u0131L FROM:<joe@z>", "MA\u0130L FROM:<joe@z>", "QU\u0131T", "QU\u0130T", "\uff2eOOP"} {
		for _, s := range commanded() {
			stays(t, s, line, 500)
		}
	}
}

// P12.2, P12.3: a line has at most MaxLine bytes; a longer one is told so ahead of all else.
func TestLongLines(t *testing.T) {
	for _, s := range commanded() {
		for _, n := range []int{api.MaxLine + 1, api.MaxLine + 2, api.MaxText, api.MaxText + 1, 1 << 20} {
			for _, word := range []string{"LHLO ", "MAIL FROM:", "RCPT TO:", "DATA", "NOOP", "QUIT", "", "."} {
				stays(t, s, word+strings.Repeat("x", n-len(word)), 500)
			}
		}
		stays(t, s, "LHLO "+strings.Repeat("x", api.MaxLine-5), 501)
		stays(t, s, strings.Repeat("x", api.MaxLine), 500)
	}
	fill := strings.Repeat("x", api.MaxLine-len("RCPT TO:"))
	stays(t, at(api.Fresh), "RCPT TO:"+fill, 503)
	stays(t, from(), "RCPT TO:"+fill, 501)
	stays(t, from(), "RCPT TO:"+fill+"x", 500)
	stays(t, at(api.Fresh), "MAIL FROM:"+fill[2:], 503)
	stays(t, at(api.Ready), "MAIL FROM:"+fill[2:], 501)
	stays(t, at(api.Fresh), "MAIL FROM:"+fill, 500)
}
