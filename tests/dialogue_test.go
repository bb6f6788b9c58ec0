package tests

import (
	"math"
	"math/rand"
	"regexp"
	"slices"
	"strings"
	"testing"

	"loop.example/mailwire/impl"
)

const (
	localPattern  = "[!#-'*+/-9=?A-Z^-~-]+(?:\\.[!#-'*+/-9=?A-Z^-~-]+)*"
	labelPattern  = "[a-z0-9](?:[a-z0-9-]*[a-z0-9])?"
	domainPattern = labelPattern + `(?:\.` + labelPattern + `)*`
)

// The forms of paths and domains, and of the lines that have one, in which
// capital letters do not matter.
var (
	pathForm   = regexp.MustCompile(`\A(` + localPattern + `)@(` + domainPattern + `)\z`)
	domainForm = regexp.MustCompile(`\A` + domainPattern + `\z`)
	heloForm   = regexp.MustCompile(`\A(?i:HELO ` + domainPattern + `)\z`)
	senderForm = regexp.MustCompile(`\A(?i:MAIL FROM:<(?:` + localPattern + `@` + domainPattern + `)?>)\z`)
	toForm     = regexp.MustCompile(`\A(?i:RCPT TO:<` + localPattern + `@` + domainPattern + `>)\z`)
	wordForm   = regexp.MustCompile(`\A(?:[^ "]|"(?:[^"\\]|\\.)*(?:"|\\?\z))*`)
)

// stateForms holds, for each State, which of Host, From, To and Lines may have
// something.
var stateForms = []*regexp.Regexp{
	impl.StateNew:    regexp.MustCompile(`^----$`),
	impl.StateReady:  regexp.MustCompile(`^h---$`),
	impl.StateMail:   regexp.MustCompile(`^h[f-]--$`),
	impl.StateTo:     regexp.MustCompile(`^h[f-]t-$`),
	impl.StateData:   regexp.MustCompile(`^h[f-]t[l-]$`),
	impl.StateClosed: regexp.MustCompile(`^[h-]---$`),
}

// mailTo returns a mail of ann@x.org.
func mailTo(to string, lines ...string) impl.Mail {
	return impl.Mail{From: "ann@x.org", To: []string{to}, Lines: lines}
}

// manyPaths returns paths, all of them different.
func manyPaths(number int) []string {
	var paths []string
	for i := range number {
		paths = append(paths, "b"+strings.Repeat("o", i)+"b@y.org")
	}
	return paths
}

func manyMails(number int) []impl.Mail {
	var mails []impl.Mail
	for i := range number {
		mails = append(mails, impl.Mail{To: manyPaths(i%10 + 1), Lines: slices.Repeat([]string{"."}, i)})
	}
	return mails
}

// readySession returns one that knows x.org, and has a number of mails.
func readySession(done int) impl.Session {
	return impl.Session{State: impl.StateReady, Host: "x.org", Done: manyMails(done)}
}

// mailSession returns one to which a sender was said.
func mailSession(from string, done int) impl.Session {
	s := readySession(done)
	s.State = impl.StateMail
	s.Draft.From = from
	return s
}

// toSession returns one to which a number of receivers was said.
func toSession(from string, to int, done int) impl.Session {
	s := mailSession(from, done)
	s.State = impl.StateTo
	s.Draft.To = manyPaths(to)
	return s
}

// dataSession returns one to which a number of lines was said.
func dataSession(lines int, done int) impl.Session {
	s := toSession("ann@x.org", 2, done)
	s.State = impl.StateData
	s.Draft.Lines = slices.Repeat([]string{"line"}, lines)
	return s
}

// manySessions returns valid sessions in all states that are not closed.
func manySessions() []impl.Session {
	return []impl.Session{
		{}, {Done: manyMails(1)}, {Done: manyMails(5)},
		readySession(0), readySession(1), readySession(4), readySession(5),
		mailSession("", 0), mailSession("ann@x.org", 0), mailSession("", 5), mailSession("cy@x", 4),
		toSession("", 1, 0), toSession("ann@x.org", 2, 1), toSession("", 8, 0), toSession("", 9, 0),
		toSession("ann@x.org", 9, 5), toSession("", 10, 0), toSession("ann@x.org", 10, 5),
		dataSession(0, 0), dataSession(1, 1), dataSession(28, 0), dataSession(29, 0), dataSession(30, 0), dataSession(31, 0),
		dataSession(0, 4), dataSession(0, 5), dataSession(29, 5), dataSession(30, 4), dataSession(30, 5), dataSession(31, 4), dataSession(31, 5),
	}
}

func closedSessions() []impl.Session {
	return []impl.Session{
		{State: impl.StateClosed},
		{State: impl.StateClosed, Host: "x.org"},
		{State: impl.StateClosed, Done: manyMails(1)},
		{State: impl.StateClosed, Host: "x.org", Done: manyMails(5)},
	}
}

func equalMails(a impl.Mail, b impl.Mail) bool {
	return a.From == b.From && slices.Equal(a.To, b.To) && slices.Equal(a.Lines, b.Lines)
}

func equalSessions(a impl.Session, b impl.Session) bool {
	return a.State == b.State && a.Host == b.Host && equalMails(a.Draft, b.Draft) && slices.EqualFunc(a.Done, b.Done, equalMails)
}

func copyOfMail(m impl.Mail) impl.Mail {
	m.To = slices.Clone(m.To)
	m.Lines = slices.Clone(m.Lines)
	return m
}

func copyOfSession(s impl.Session) impl.Session {
	s.Draft = copyOfMail(s.Draft)
	s.Done = slices.Clone(s.Done)
	for i, m := range s.Done {
		s.Done[i] = copyOfMail(m)
	}
	return s
}

func isDomain(s string) bool {
	return len(s) <= 40 && domainForm.MatchString(s)
}

func isPath(s string) bool {
	m := pathForm.FindStringSubmatch(s)
	return m != nil && len(m[1]) <= 30 && len(m[2]) <= 40
}

func isMail(m impl.Mail, least int, most int) bool {
	valid := m.From == "" || isPath(m.From)
	for _, path := range m.To {
		valid = valid && isPath(path)
	}
	for _, line := range m.Lines {
		valid = valid && lineForm.MatchString(line)
	}
	return valid && len(m.To) >= least && len(m.To) <= 10 && len(m.Lines) <= most
}

// isSession reports whether a session is valid, by the forms of the states.
func isSession(s impl.Session) bool {
	if s.State < 0 || s.State >= len(stateForms) || s.Host != "" && !isDomain(s.Host) || len(s.Done) > 5 {
		return false
	}
	for _, m := range s.Done {
		if !isMail(m, 1, 30) {
			return false
		}
	}
	has := []byte("----")
	for i, there := range []bool{s.Host != "", s.Draft.From != "", len(s.Draft.To) > 0, len(s.Draft.Lines) > 0} {
		if there {
			has[i] = "hftl"[i]
		}
	}
	return stateForms[s.State].Match(has) && isMail(s.Draft, 0, 31)
}

// pathOfLine returns what is between `<` and `>`, as a path.
func pathOfLine(line string) string {
	path := line[strings.Index(line, "<")+1 : len(line)-1]
	local, domain, ok := strings.Cut(path, "@")
	if !ok {
		return path
	}
	return local + "@" + strings.ToLower(domain)
}

// replyByTable returns the reply to a line, in a State other than StateData.
func replyByTable(s impl.Session, line string) int {
	only := strings.ToUpper(line)
	switch strings.ToUpper(wordForm.FindString(line)) {
	case "HELO":
		if !heloForm.MatchString(line) || !isDomain(strings.ToLower(line[5:])) {
			return 501
		}
		return 250
	case "MAIL":
		if !senderForm.MatchString(line) || pathOfLine(line) != "" && !isPath(pathOfLine(line)) {
			return 501
		}
		if s.State != 1 {
			return 503
		}
		return 250
	case "RCPT":
		switch {
		case !toForm.MatchString(line) || !isPath(pathOfLine(line)):
			return 501
		case s.State != 2 && s.State != 3:
			return 503
		case len(s.Draft.To) == 10:
			return 452
		}
		return 250
	}
	if only == "DATA" && s.State != 3 {
		return 503
	}
	replies := map[string]int{"DATA": 354, "RSET": 250, "NOOP": 250, "QUIT": 221}
	if reply, ok := replies[only]; ok {
		return reply
	}
	return 500
}

// changeByTable returns what a session becomes by a line with a reply that
// changes something.
func changeByTable(s impl.Session, line string) impl.Session {
	switch strings.ToUpper(line[:4]) {
	case "HELO":
		return impl.Session{State: 1, Host: strings.ToLower(line[5:]), Done: s.Done}
	case "MAIL":
		s.State = 2
		s.Draft.From = pathOfLine(line)
	case "RCPT":
		s.State = 3
		s.Draft.To = append(s.Draft.To, pathOfLine(line))
	case "DATA":
		s.State = 4
	case "RSET":
		s = impl.Session{State: min(s.State, 1), Host: s.Host, Done: s.Done}
	case "QUIT":
		s = impl.Session{State: 5, Host: s.Host, Done: s.Done}
	}
	return s
}

// collectByTable takes a line in StateData.
func collectByTable(s impl.Session, line string) (impl.Session, int) {
	if line != "." {
		if len(s.Draft.Lines) < 31 {
			s.Draft.Lines = append(s.Draft.Lines, strings.TrimPrefix(line, "."))
		}
		return s, 0
	}
	ended := impl.Session{State: 1, Host: s.Host, Done: s.Done}
	switch {
	case len(s.Draft.Lines) == 31:
		return ended, 552
	case len(s.Done) == 5:
		return ended, 452
	}
	ended.Done = append(ended.Done, s.Draft)
	return ended, 250
}

// sayByTable says a line as SayLine does: first, it looks for the reply, and
// what changes follows from it.
func sayByTable(s impl.Session, line string) (impl.Session, int, bool) {
	if s.State == 5 || !lineForm.MatchString(line) {
		return impl.Session{}, 0, false
	}
	s = copyOfSession(s)
	if s.State == 4 {
		after, reply := collectByTable(s, line)
		return after, reply, true
	}
	reply := replyByTable(s, line)
	if reply < 400 {
		s = changeByTable(s, line)
	}
	return s, reply, true
}

// expectSaid holds what a line does to a session against what is wanted.
func expectSaid(t *testing.T, s impl.Session, line string, reply int, want impl.Session) {
	t.Helper()
	kept := copyOfSession(s)
	got, code, ok := impl.SayLine(s, line)
	if !ok || code != reply || !equalSessions(got, want) {
		t.Errorf("SayLine(%+v, %q) = %+v, %d, %v, want %+v, %d", s, line, got, code, ok, want, reply)
	}
	if !impl.SessionValid(got) {
		t.Errorf("SayLine(%+v, %q) = %+v, which is not valid", s, line, got)
	}
	if !equalSessions(s, kept) {
		t.Errorf("SayLine(%+v, %q) changed the session to %+v", kept, line, s)
	}
}

func expectNotSaid(t *testing.T, s impl.Session, line string) {
	t.Helper()
	if got, code, ok := impl.SayLine(s, line); ok || code != 0 || !equalSessions(got, impl.Session{}) {
		t.Errorf("SayLine(%+v, %q) = %+v, %d, %v, want none", s, line, got, code, ok)
	}
	expectNotAllSaid(t, s, line)
}

// expectSaidByTable holds what a line does to a valid session against the
// second way, and returns the session and the reply.
func expectSaidByTable(t *testing.T, s impl.Session, line string) (impl.Session, int) {
	t.Helper()
	want, reply, ok := sayByTable(s, line)
	if !ok {
		expectNotSaid(t, s, line)
		return s, 0
	}
	expectSaid(t, s, line, reply, want)
	return want, reply
}

// expectSame says a line which changes nothing.
func expectSame(t *testing.T, s impl.Session, line string, reply int) {
	t.Helper()
	expectSaid(t, s, line, reply, s)
}

// expectAllSaid says lines, and holds all replies against what is wanted.
func expectAllSaid(t *testing.T, s impl.Session, lines []string, want impl.Session, replies ...int) {
	t.Helper()
	got, codes, ok := impl.SayAll(s, lines)
	if !ok || !slices.Equal(codes, replies) || !equalSessions(got, want) {
		t.Errorf("SayAll(%+v, %q) = %+v, %d, %v, want %+v, %d", s, lines, got, codes, ok, want, replies)
	}
}

func expectNotAllSaid(t *testing.T, s impl.Session, lines ...string) {
	t.Helper()
	if got, codes, ok := impl.SayAll(s, lines); ok || len(codes) != 0 || !equalSessions(got, impl.Session{}) {
		t.Errorf("SayAll(%+v, %q) = %+v, %d, %v, want none", s, lines, got, codes, ok)
	}
}

func expectMail(t *testing.T, m impl.Mail, want bool) {
	t.Helper()
	if got := impl.MailValid(m); got != want {
		t.Errorf("MailValid(%q) = %v", m, got)
	}
	if isMail(m, 1, 30) != want {
		t.Errorf("the second way differs for %q", m)
	}
	if !want {
		expectNotSpoken(t, m)
	}
}

func expectSession(t *testing.T, s impl.Session, want bool) {
	t.Helper()
	if got := impl.SessionValid(s); got != want {
		t.Errorf("SessionValid(%+v) = %v", s, got)
	}
	if isSession(s) != want {
		t.Errorf("the second way differs for %+v", s)
	}
	if !want {
		for _, line := range []string{"NOOP", "HELO x.org", "RSET", "QUIT", ".", "a"} {
			expectNotSaid(t, s, line)
		}
		expectNotAllSaid(t, s)
		return
	}
	expectAllSaid(t, s, nil, s)
}

// expectPath holds a path against what is wanted, wherever a path may stand.
func expectPath(t *testing.T, path string, want bool) {
	t.Helper()
	m := mailTo("bob@y.org")
	m.From = path
	expectMail(t, m, want || path == "")
	for at := range 3 {
		m = mailTo("bob@y.org")
		m.To = slices.Insert([]string{"cy@z", "di@z"}, at, path)
		expectMail(t, m, want)
	}
	s := mailSession(path, 0)
	if got := impl.SessionValid(s); got != (want || path == "") {
		t.Errorf("SessionValid(%+v) = %v", s, got)
	}
	s = toSession("", 1, 0)
	s.Draft.To = append(s.Draft.To, path)
	if got := impl.SessionValid(s); got != want {
		t.Errorf("SessionValid(%+v) = %v", s, got)
	}
}

func expectNotSpoken(t *testing.T, m impl.Mail) {
	t.Helper()
	if got, ok := impl.SpeakMail(m); ok || len(got) != 0 {
		t.Errorf("SpeakMail(%q) = %q, %v, want none", m, got, ok)
	}
}

// expectHandedOver speaks a mail to a session that has said hello, and which
// has this mail then.
func expectHandedOver(t *testing.T, m impl.Mail) {
	t.Helper()
	lines, ok := impl.SpeakMail(m)
	if !ok || slices.Index(lines, ".") != len(lines)-1 {
		t.Errorf("SpeakMail(%q) = %q, %v", m, lines, ok)
	}
	replies := slices.Repeat([]int{250}, 1+len(m.To))
	replies = append(replies, 354, 250)
	for _, done := range []int{0, 4} {
		want := readySession(done)
		want.Done = append(want.Done, m)
		expectAllSaid(t, readySession(done), lines, want, replies...)
	}
	replies[len(replies)-1] = 452
	expectAllSaid(t, readySession(5), lines, readySession(5), replies...)
}

func TestLimitsOfDialogues(t *testing.T) {
	if impl.MaxTo != 10 || impl.MaxLong != 30 || impl.MaxDone != 5 {
		t.Errorf("the limits are %d, %d and %d", impl.MaxTo, impl.MaxLong, impl.MaxDone)
	}
	states := []int{impl.StateNew, impl.StateReady, impl.StateMail, impl.StateTo, impl.StateData, impl.StateClosed}
	if !slices.Equal(states, []int{0, 1, 2, 3, 4, 5}) {
		t.Errorf("the states are %d", states)
	}
}

func TestMailValid(t *testing.T) {
	expectMail(t, mailTo("bob@y.org"), true)
	expectMail(t, mailTo("bob@y.org", "a", "", ".", "..", "QUIT", "a line"), true)
	expectMail(t, impl.Mail{To: []string{"a@b"}}, true)
	expectMail(t, impl.Mail{To: []string{"a@b", "a@b"}}, true)
	expectMail(t, impl.Mail{From: "a@b", To: []string{"a@b"}, Lines: []string{""}}, true)
	expectMail(t, impl.Mail{}, false)
	expectMail(t, impl.Mail{From: "a@b"}, false)
	expectMail(t, impl.Mail{From: "a@b", To: []string{}, Lines: []string{"a"}}, false)
	expectMail(t, impl.Mail{To: []string{""}}, false)
	expectMail(t, impl.Mail{To: []string{"a@b", ""}}, false)
}

func TestLimitOfReceivers(t *testing.T) {
	for number := range 13 {
		m := impl.Mail{To: manyPaths(number), Lines: []string{"a"}}
		expectMail(t, m, number >= 1 && number <= 10)
		expectSession(t, toSession("", number, 0), number >= 1 && number <= 10)
		s := readySession(0)
		s.Done = []impl.Mail{m}
		expectSession(t, s, number >= 1 && number <= 10)
	}
	expectMail(t, impl.Mail{To: make([]string, 1<<20)}, false)
}

func TestLimitOfLinesOfMails(t *testing.T) {
	for number := range 35 {
		m := mailTo("bob@y.org", slices.Repeat([]string{""}, number)...)
		expectMail(t, m, number <= 30)
		if number <= 30 {
			expectHandedOver(t, m)
		}
		expectSession(t, dataSession(number, 0), number <= 31)
		s := readySession(0)
		s.Done = []impl.Mail{m}
		expectSession(t, s, number <= 30)
	}
	expectMail(t, mailTo("bob@y.org", make([]string, 1<<20)...), false)
}

func TestLinesOfMails(t *testing.T) {
	for _, line := range []string{"", " ", ".", "~", strings.Repeat("a", 199), strings.Repeat("~", 200)} {
		for at := range 3 {
			m := mailTo("bob@y.org", slices.Insert([]string{"a", "b"}, at, line)...)
			expectMail(t, m, true)
			expectHandedOver(t, m)
		}
	}
	for _, line := range []string{"\r", "\n", "\t", "\x00", "\x1f", "\x7f", "\x80", "é", "a\r\n", strings.Repeat("a", 201), strings.Repeat("a", 1000)} {
		for at := range 3 {
			lines := slices.Insert([]string{"a", "b"}, at, line)
			expectMail(t, mailTo("bob@y.org", lines...), false)
			s := dataSession(0, 0)
			s.Draft.Lines = lines
			expectSession(t, s, false)
		}
	}
}

func TestPaths(t *testing.T) {
	for _, path := range []string{
		"a@b", "ann@x.org", "Ann@x.org", "ANN@x", "a.b@c.d", "a.b.c@d.e.f", "1@2", "1.2@3.4", "a@b-c", "a@1-2.3--4", "-@b", "-a-@b",
		"!#$%&'*+-/=?^_`{|}~@b", "FROM@to", "a@x.9",
	} {
		expectPath(t, path, true)
	}
	for _, path := range []string{
		"", "@", "a", "a@", "@b", "ann", "x.org", "a@B", "a@x.Org", "a@b@c", "a@@b", "@a@b", "a@b@", " a@b", "a@b ", "a @b", "a@ b", "a b@c", "a@b c",
		".a@b", "a.@b", "a..b@c", "a@.b", "a@b.", "a@b..c", "a@-b", "a@b-", "a@b.-c", "a@b-.c", "a@b_c", "a@b,c",
		"<a@b>", "a@b>", "<a@b", "Ann <a@b>", `"a"@b`, `"a b"@c`, `a"@b`, `a\@b`, "(a)@b", "a,b@c", "a:b@c", "a;b@c", "[a]@b", "a@[b]", "a>@b", "a@b\r\n", "a@b\n", "\ta@b", "a\x00@b", "é@b", "a@é", "a\x7f@b",
	} {
		expectPath(t, path, false)
	}
}

func TestBytesOfPaths(t *testing.T) {
	for c := range 256 {
		b := string([]byte{byte(c)})
		atom := strings.Contains(atomBytes, b)
		label := strings.Contains(labelBytes, b)
		expectPath(t, b+"@x", atom)
		expectPath(t, "a"+b+"@x", atom)
		expectPath(t, b+"a@x", atom)
		expectPath(t, "a"+b+"a@x", atom || b == ".")
		expectPath(t, "a@"+b, label && b != "-")
		expectPath(t, "a@"+b+"x", label && b != "-")
		expectPath(t, "a@x"+b, label && b != "-")
		expectPath(t, "a@x"+b+"y", label || b == ".")
	}
}

func TestLimitsOfPaths(t *testing.T) {
	for local := 28; local <= 41; local++ {
		for domain := 38; domain <= 42; domain++ {
			valid := local <= 30 && domain <= 40
			path := strings.Repeat("a", local) + "@" + strings.Repeat("b", domain)
			expectPath(t, path, valid)
			expectPath(t, "a."+path[2:], valid)
			expectPath(t, path[:len(path)-2]+".b", valid)
			reply := 501
			if valid {
				reply = 250
			}
			after := mailSession("", 0)
			if valid {
				after.State = impl.StateTo
				after.Draft.To = []string{path}
			}
			expectSaid(t, mailSession("", 0), "RCPT TO:<"+path+">", reply, after)
			after = readySession(0)
			if valid {
				after = mailSession(path, 0)
			}
			expectSaid(t, readySession(0), "MAIL FROM:<"+path+">", reply, after)
		}
	}
}

func TestMailSame(t *testing.T) {
	mails := []impl.Mail{
		{}, {From: "a@b"}, {From: "A@b"}, {From: "a@B"}, {To: []string{""}}, {Lines: []string{""}}, {To: []string{"a@b"}}, {Lines: []string{"a@b"}},
		{From: "a@b", To: []string{"a@b"}}, {From: "a@b", To: []string{"c@d"}}, {From: "a@b", To: []string{"a@b", "c@d"}}, {From: "a@b", To: []string{"c@d", "a@b"}},
		{From: "a@b", To: []string{"a@b", "a@b"}}, {From: "a@b", To: []string{"a@b"}, Lines: []string{"a"}}, {From: "a@b", To: []string{"a@b"}, Lines: []string{"A"}},
		{From: "a@b", To: []string{"a@b"}, Lines: []string{"a", "b"}}, {From: "a@b", To: []string{"a@b"}, Lines: []string{"b", "a"}}, {From: "a@b", To: []string{"a@b"}, Lines: []string{"a", ""}},
		{From: "\xff", To: []string{"\x00"}, Lines: []string{"\n"}}, {From: "\xff", To: []string{"\x00"}, Lines: []string{"\r"}},
		{To: manyPaths(11)}, {To: manyPaths(12)}, {Lines: make([]string, 32)}, {Lines: make([]string, 33)},
	}
	for i, a := range mails {
		for j, b := range mails {
			if got := impl.MailSame(a, copyOfMail(b)); got != (i == j) {
				t.Errorf("MailSame(%q, %q) = %v", a, b, got)
			}
			x := impl.Session{Draft: a}
			y := impl.Session{Draft: copyOfMail(b)}
			if got := impl.SessionSame(x, y); got != (i == j) {
				t.Errorf("SessionSame(%+v, %+v) = %v", x, y, got)
			}
			x = impl.Session{Done: []impl.Mail{{}, a}}
			y = impl.Session{Done: []impl.Mail{{}, b}}
			if got := impl.SessionSame(x, y); got != (i == j) {
				t.Errorf("SessionSame(%+v, %+v) = %v", x, y, got)
			}
		}
	}
	if !impl.MailSame(impl.Mail{To: []string{}, Lines: []string{}}, impl.Mail{}) {
		t.Error("MailSame tells nil slices from empty ones")
	}
}

func TestSessionSame(t *testing.T) {
	sessions := append(manySessions(), closedSessions()...)
	sessions = append(sessions, impl.Session{State: -1}, impl.Session{State: 6}, impl.Session{Host: "x.org"}, impl.Session{Host: "X.org"},
		impl.Session{Done: make([]impl.Mail, 6)}, impl.Session{Done: make([]impl.Mail, 7)}, impl.Session{State: math.MaxInt}, impl.Session{State: math.MinInt},
		impl.Session{Done: []impl.Mail{{}}}, impl.Session{Done: []impl.Mail{mailTo("a"), mailTo("b")}}, impl.Session{Done: []impl.Mail{mailTo("b"), mailTo("a")}}, impl.Session{Draft: mailTo("a")})
	for i, a := range sessions {
		for j, b := range sessions {
			if got := impl.SessionSame(a, copyOfSession(b)); got != (i == j) {
				t.Errorf("SessionSame(%+v, %+v) = %v", a, b, got)
			}
		}
	}
	if !impl.SessionSame(impl.Session{Done: []impl.Mail{}}, impl.Session{}) {
		t.Error("SessionSame tells nil slices from empty ones")
	}
}

func TestSessionValid(t *testing.T) {
	for _, s := range append(manySessions(), closedSessions()...) {
		expectSession(t, s, true)
		for _, state := range []int{-1, 6, 7, math.MinInt, math.MaxInt} {
			s.State = state
			expectSession(t, s, false)
		}
	}
	expectSession(t, impl.Session{Host: "x.org"}, false)
	expectSession(t, impl.Session{State: impl.StateReady}, false)
	expectSession(t, impl.Session{State: impl.StateMail}, false)
	expectSession(t, impl.Session{State: impl.StateTo, Draft: mailTo("a@b")}, false)
	expectSession(t, impl.Session{State: impl.StateData, Draft: mailTo("a@b")}, false)
	expectSession(t, impl.Session{Draft: impl.Mail{From: "a@b"}}, false)
	expectSession(t, impl.Session{State: impl.StateClosed, Draft: impl.Mail{From: "a@b"}}, false)
	expectSession(t, impl.Session{State: impl.StateReady, Host: "x", Draft: impl.Mail{From: "a@b"}}, false)
	expectSession(t, impl.Session{State: impl.StateMail, Host: "x", Draft: mailTo("a@b")}, false)
	expectSession(t, impl.Session{State: impl.StateTo, Host: "x", Draft: mailTo("a@b", "a")}, false)
	expectSession(t, impl.Session{State: impl.StateTo, Host: "x", Draft: impl.Mail{From: "a@b"}}, false)
	expectSession(t, impl.Session{State: impl.StateData, Host: "x", Draft: impl.Mail{From: "a@b", Lines: []string{"a"}}}, false)
	expectSession(t, impl.Session{Done: make([]impl.Mail, 1<<20)}, false)
}

func TestHosts(t *testing.T) {
	for _, host := range []string{"x", "x.org", "1", "1.2.3", "a-b.c--d", strings.Repeat("a", 39), strings.Repeat("a", 40), strings.Repeat("a.", 19) + "bc"} {
		for _, state := range []int{impl.StateReady, impl.StateMail, impl.StateClosed} {
			expectSession(t, impl.Session{State: state, Host: host}, true)
		}
		expectSession(t, impl.Session{Host: host}, false)
	}
	for _, host := range []string{"X", "x.Org", ".", "x.", ".x", "x..y", "-", "-x", "x-", "x.-y", "a@b", "x y", " x", "x ", "x_y", "é", "\n", "x\n", "x\x00", strings.Repeat("a", 41), strings.Repeat("a.", 20) + "b"} {
		for state := range 6 {
			expectSession(t, impl.Session{State: state, Host: host}, false)
		}
	}
}

// Each field is combined with each other, in each State.
func TestFieldsOfSessions(t *testing.T) {
	states := []int{-1, 0, 1, 2, 3, 4, 5, 6}
	hosts := []string{"", "x.org", "X", "-"}
	senders := []string{"", "a@b", "a@B"}
	receivers := [][]string{nil, {"a@b"}, manyPaths(10), manyPaths(11), {"a@b", "a"}}
	texts := [][]string{nil, {""}, make([]string, 30), make([]string, 31), make([]string, 32), {"a", "\n"}}
	mails := [][]impl.Mail{nil, {mailTo("a@b")}, manyMails(5), manyMails(6), {mailTo("a@b"), {}}, {mailTo("a@b", make([]string, 31)...)}}
	valid := 0
	for _, state := range states {
		for _, host := range hosts {
			for _, from := range senders {
				for _, to := range receivers {
					for _, lines := range texts {
						for _, done := range mails {
							s := impl.Session{State: state, Host: host, Draft: impl.Mail{From: from, To: to, Lines: lines}, Done: done}
							want := isSession(s)
							expectSession(t, s, want)
							if want {
								valid++
							}
						}
					}
				}
			}
		}
	}
	// 3 for Done, and 1 for New, 1 for Ready, 2 for Mail, 4 for To, 16 for Data
	// and 2 for Closed.
	if valid != 3*(1+1+2+4+16+2) {
		t.Errorf("%d sessions are valid", valid)
	}
}

func TestHelo(t *testing.T) {
	for _, s := range manySessions() {
		if s.State == impl.StateData {
			continue
		}
		want := impl.Session{State: impl.StateReady, Host: "z.net", Done: s.Done}
		expectSaid(t, s, "HELO z.net", 250, want)
		expectSaid(t, s, "helo Z.NET", 250, want)
		for _, line := range []string{"HELO", "HELO ", "HELO  z.net", "HELO z.net ", "HELO z net", "HELO -z", "HELO z.", "HELO a@z.net", "HELO <z.net>", "HELO z_z", `HELO "z.net"`, `HELO "`, "HELO z,y", "HELO " + strings.Repeat("a", 41)} {
			expectSame(t, s, line, 501)
		}
		for _, line := range []string{"HELOz.net", "HELO:z.net", "EHLO z.net", " HELO z.net", "HEL O", "HELOO z.net", `HELO" z.net"`, `"HELO" z.net`, `"HELO z.net"`, "HELO\\ z.net"} {
			expectSame(t, s, line, 500)
		}
	}
	for length := 1; length <= 200-5; length++ {
		domain := strings.Repeat("D", length)
		want := impl.Session{State: impl.StateReady, Host: strings.ToLower(domain)}
		if length <= 40 {
			expectSaid(t, impl.Session{}, "HELO "+domain, 250, want)
		} else {
			expectSame(t, impl.Session{}, "HELO "+domain, 501)
		}
	}
	expectNotSaid(t, impl.Session{}, "HELO "+strings.Repeat("d", 196))
}

func TestMailFrom(t *testing.T) {
	for _, line := range []string{"MAIL FROM:<Ann@x.org>", "mail from:<Ann@X.ORG>", "Mail From:<Ann@x.Org>"} {
		for _, s := range manySessions() {
			switch s.State {
			case impl.StateReady:
				want := s
				want.State = impl.StateMail
				want.Draft.From = "Ann@x.org"
				expectSaid(t, s, line, 250, want)
			case impl.StateNew, impl.StateMail, impl.StateTo:
				expectSame(t, s, line, 503)
			}
		}
	}
	for _, s := range manySessions() {
		if s.State == impl.StateData {
			continue
		}
		for _, line := range []string{
			"MAIL", "mail", "MAIL ", "MAIL FROM", "MAIL FROM:", "MAIL FROM:a@b", "MAIL FROM:<", "MAIL FROM:>", "MAIL FROM:<a@b", "MAIL FROM:a@b>", "MAIL FROM <a@b>", "MAIL FROM: <a@b>", "MAIL  FROM:<a@b>", "MAIL FROM :<a@b>",
			"MAIL FROM:<a@b> ", "MAIL FROM:<a@b> SIZE=1", "MAIL FROM:<a@b>>", "MAIL FROM:<<a@b>>", "MAIL FROM:< a@b>", "MAIL FROM:<a@b >", "MAIL FROM:< >", "MAIL FROM:<a>", "MAIL FROM:<@b>", "MAIL FROM:<a@>", "MAIL FROM:<@>", "MAIL FROM:<a@b@c>", "MAIL FROM:<A <a@b>>", `MAIL FROM:<"a"@b>`, `MAIL FROM:<"a b"@c>`, "MAIL FROM:<a@b->", "MAIL FROM:<a@b>x",
			"MAIL TO:<a@b>", "MAIL FROM:<a..b@c>", "MAIL FROM:<a@b.>", "MAIL x FROM:<a@b>", "MAIL <a@b>", `MAIL "`, "MAIL FROM:<a@b>,<c@d>", "MAIL FROM:<a@b,c@d>", "MAIL FROM;<a@b>", "MAIL FROMM:<a@b>",
		} {
			expectSame(t, s, line, 501)
		}
		for _, line := range []string{"MAILFROM:<a@b>", "MAILS FROM:<a@b>", " MAIL FROM:<a@b>", "FROM:<a@b>", "MAIL:<a@b>", `"MAIL" FROM:<a@b>`, `MAIL" FROM:<a@b>"`, `MAIL" FROM:<a@b>`, "MA IL FROM:<a@b>", "<a@b>"} {
			expectSame(t, s, line, 500)
		}
	}
}

// Nobody sends what must not be answered.
func TestNobodySends(t *testing.T) {
	expectSaid(t, readySession(0), "MAIL FROM:<>", 250, mailSession("", 0))
	expectSaid(t, readySession(5), "mail From:<>", 250, mailSession("", 5))
	for _, s := range manySessions() {
		if s.State != impl.StateReady && s.State != impl.StateData {
			expectSame(t, s, "MAIL FROM:<>", 503)
		}
		if s.State != impl.StateData {
			expectSame(t, s, "RCPT TO:<>", 501)
		}
	}
	m := impl.Mail{To: []string{"bob@y.org"}, Lines: []string{"a"}}
	expectHandedOver(t, m)
	lines := []string{"HELO x.org", "MAIL FROM:<>", "RCPT TO:<bob@y.org>", "DATA", "a", "."}
	want := impl.Session{State: impl.StateReady, Host: "x.org", Done: []impl.Mail{m}}
	expectAllSaid(t, impl.Session{}, lines, want, 250, 250, 250, 354, 250)
}

func TestRcptTo(t *testing.T) {
	for _, line := range []string{"RCPT TO:<Eve@z.net>", "rcpt to:<Eve@Z.NET>", "Rcpt To:<Eve@z.Net>"} {
		for _, s := range manySessions() {
			want := copyOfSession(s)
			want.State = impl.StateTo
			want.Draft.To = append(want.Draft.To, "Eve@z.net")
			switch {
			case s.State == impl.StateNew || s.State == impl.StateReady:
				expectSame(t, s, line, 503)
			case len(s.Draft.To) == 10:
				expectSame(t, s, line, 452)
			case s.State != impl.StateData:
				expectSaid(t, s, line, 250, want)
			}
		}
	}
	for _, s := range manySessions() {
		if s.State == impl.StateData {
			continue
		}
		for _, line := range []string{
			"RCPT", "rcpt", "RCPT ", "RCPT TO", "RCPT TO:", "RCPT TO:a@b", "rcpt to:bob", "RCPT TO:<", "RCPT TO:<>", "RCPT TO:< >", "RCPT TO:<a@b", "RCPT TO:a@b>", "RCPT TO <a@b>", "RCPT TO: <a@b>", "RCPT  TO:<a@b>",
			"RCPT TO:<a@b> ", "RCPT TO:<a@b> x", "RCPT TO:<a@b>>", "RCPT TO:<<a@b>>", "RCPT TO:< a@b>", "RCPT TO:<a@b >", "RCPT TO:<a>", "RCPT TO:<@b>", "RCPT TO:<a@>", "RCPT TO:<a@b@c>", "RCPT TO:<A <a@b>>", `RCPT TO:<"a"@b>`, "RCPT TO:<a@-b>", "RCPT TO:<a@b>,<c@d>", "RCPT FROM:<a@b>", "RCPT TOO:<a@b>", `RCPT "`,
		} {
			expectSame(t, s, line, 501)
		}
		for _, line := range []string{"RCPTTO:<a@b>", "RCPTS TO:<a@b>", " RCPT TO:<a@b>", "TO:<a@b>", "RCPT:<a@b>", `"RCPT" TO:<a@b>`, `RCPT" TO:<a@b>`, "R CPT TO:<a@b>"} {
			expectSame(t, s, line, 500)
		}
	}
}

// The same path may be said twice: this is the business of a gateway.
func TestRepeatedReceivers(t *testing.T) {
	s := mailSession("", 0)
	for number := 1; number <= 12; number++ {
		if number > 10 {
			expectSame(t, s, "RCPT TO:<bob@Y.org>", 452)
			continue
		}
		want := toSession("", 0, 0)
		want.Draft.To = slices.Repeat([]string{"bob@y.org"}, number)
		expectSaid(t, s, "RCPT TO:<bob@Y.org>", 250, want)
		s = want
	}
	expectSame(t, s, "RCPT TO:<bob>", 501)
	expectSame(t, s, "RCPT", 501)
	want := s
	want.State = impl.StateData
	expectSaid(t, s, "DATA", 354, want)
}

func TestWordsOfOneLine(t *testing.T) {
	for _, s := range manySessions() {
		if s.State == impl.StateData {
			continue
		}
		want := s
		for _, line := range []string{"DATA", "data", "Data", "dAtA"} {
			if s.State == impl.StateTo {
				want.State = impl.StateData
				expectSaid(t, s, line, 354, want)
			} else {
				expectSame(t, s, line, 503)
			}
		}
		for _, line := range []string{"NOOP", "noop", "NoOp"} {
			expectSame(t, s, line, 250)
		}
		want = impl.Session{State: impl.StateReady, Host: s.Host, Done: s.Done}
		if s.State == impl.StateNew {
			want = s
		}
		for _, line := range []string{"RSET", "rset", "rSeT"} {
			expectSaid(t, s, line, 250, want)
		}
		want = impl.Session{State: impl.StateClosed, Host: s.Host, Done: s.Done}
		for _, line := range []string{"QUIT", "quit", "qUIt"} {
			expectSaid(t, s, line, 221, want)
		}
		for _, word := range []string{"DATA", "RSET", "NOOP", "QUIT", "quit"} {
			for _, line := range []string{word + " ", word + " x", word + "  ", " " + word, word + "x", "x" + word, word[:3], word[1:], word + ".", `"` + word + `"`, word + `"`, word + `" x"`, word + ":", word + "<>", word + " " + word, word + word, word + " " + strings.Repeat("x", 195)} {
				expectSame(t, s, line, 500)
			}
		}
	}
}

func TestOtherLines(t *testing.T) {
	for _, s := range manySessions() {
		if s.State == impl.StateData {
			continue
		}
		for _, line := range []string{"", " ", ".", "..", "a", "VRFY", "EHLO x.org", "HELP", "x HELO y", "STARTTLS", "Subject: a", `"`, `""`, `" "`, `\`, ">", strings.Repeat("a", 200), strings.Repeat(" ", 200), strings.Repeat(`"`, 199), "250 ok"} {
			expectSame(t, s, line, 500)
		}
	}
}

// In each command, each letter may be a capital or a small one.
func TestLettersOfCommands(t *testing.T) {
	commands := []struct {
		letters string
		rest    string
		s       impl.Session
		reply   int
		want    impl.Session
	}{
		{"helo", " z.net", impl.Session{}, 250, impl.Session{State: impl.StateReady, Host: "z.net"}},
		{"mail from", ":<ann@x.org>", readySession(0), 250, mailSession("ann@x.org", 0)},
		{"rcpt to", ":<bb@y.org>", mailSession("", 0), 250, toSession("", 1, 0)},
		{"data", "", toSession("ann@x.org", 2, 0), 354, dataSession(0, 0)},
		{"rset", "", mailSession("ann@x.org", 1), 250, readySession(1)},
		{"noop", "", readySession(0), 250, readySession(0)},
		{"quit", "", impl.Session{}, 221, impl.Session{State: impl.StateClosed}},
	}
	for _, c := range commands {
		for bits := range pow(2, len(c.letters)) {
			line := []byte(c.letters)
			for i := range line {
				if bits>>i&1 == 1 {
					line[i] = strings.ToUpper(c.letters)[i]
				}
			}
			expectSaid(t, c.s, string(line)+c.rest, c.reply, c.want)
		}
	}
}

// Letters of a mailbox stay as they are, and those of domains become small.
func TestLettersOfPaths(t *testing.T) {
	want := toSession("ANN.Lee@x.org", 0, 0)
	want.Draft.To = []string{"BoB@y.org", "bob@y.org"}
	lines := []string{"MAIL FROM:<ANN.Lee@X.ORG>", "RCPT TO:<BoB@Y.org>", "RCPT TO:<bob@y.ORG>"}
	expectAllSaid(t, readySession(0), lines, want, 250, 250, 250)
	for c := range 256 {
		b := string([]byte{byte(c)})
		for _, s := range []impl.Session{readySession(0), mailSession("", 0), toSession("a@b", 1, 0)} {
			for _, line := range []string{"HELO " + b, "HELO a" + b + "b"} {
				expectSaidByTable(t, s, line)
			}
			for _, path := range []string{b + "@x", "a" + b + "c@x", "a@" + b, "a@x" + b + "y"} {
				expectSaidByTable(t, s, "MAIL FROM:<"+path+">")
				expectSaidByTable(t, s, "RCPT TO:<"+path+">")
			}
		}
	}
}

// Each byte is put at each place of each command, and in place of each byte.
func TestBytesOfCommands(t *testing.T) {
	commands := []string{"HELO x.org", "MAIL FROM:<a@b>", "MAIL FROM:<>", "RCPT TO:<a@b>", "DATA", "RSET", "NOOP", "QUIT", "VRFY", "."}
	sessions := []impl.Session{{}, readySession(0), mailSession("a@b", 0), toSession("", 1, 0), toSession("", 10, 0)}
	for _, command := range commands {
		for c := range 256 {
			b := string([]byte{byte(c)})
			for at := range len(command) + 1 {
				for _, s := range sessions {
					expectSaidByTable(t, s, command[:at]+b+command[at:])
					if at < len(command) {
						expectSaidByTable(t, s, command[:at]+b+command[at+1:])
					}
				}
			}
		}
		for at := range len(command) {
			for _, s := range sessions {
				expectSaidByTable(t, s, command[:at])
				expectSaidByTable(t, s, command[at:])
				expectSaidByTable(t, s, command[:at]+command[at+1:])
			}
		}
	}
}

// Of all checks, the form of a line is the first.
func TestOrderOfReplies(t *testing.T) {
	expectSame(t, impl.Session{}, "MAIL FROM:<a>", 501)
	expectSame(t, impl.Session{}, "MAIL FROM:<a@b>", 503)
	expectSame(t, toSession("", 10, 0), "MAIL FROM:<a>", 501)
	expectSame(t, toSession("", 10, 0), "MAIL FROM:<a@b>", 503)
	expectSame(t, impl.Session{}, "RCPT TO:<a>", 501)
	expectSame(t, impl.Session{}, "RCPT TO:<a@b>", 503)
	expectSame(t, toSession("", 10, 0), "RCPT TO:<a>", 501)
	expectSame(t, toSession("", 10, 0), "RCPT TO:<a@b>", 452)
	expectSame(t, impl.Session{}, "DATA x", 500)
	expectSame(t, impl.Session{}, "DATA", 503)
	expectSaid(t, dataSession(31, 5), ".", 552, readySession(5))
	expectSaid(t, dataSession(31, 0), ".", 552, readySession(0))
	expectSaid(t, dataSession(30, 5), ".", 452, readySession(5))
}

// Within a message, no line is a command, and none has a reply.
func TestCommandsWithinAMessage(t *testing.T) {
	for _, line := range []string{"HELO z.net", "MAIL FROM:<x@y>", "RCPT TO:<x@y>", "DATA", "RSET", "NOOP", "QUIT", "quit", "", " ", "VRFY", " .", ". ", "a.", "-", strings.Repeat("a", 200)} {
		for _, s := range []impl.Session{dataSession(0, 0), dataSession(1, 5), dataSession(29, 0), dataSession(30, 1)} {
			want := copyOfSession(s)
			want.Draft.Lines = append(want.Draft.Lines, strings.TrimPrefix(line, "."))
			expectSaid(t, s, line, 0, want)
		}
		expectSame(t, dataSession(31, 0), line, 0)
	}
	m := mailTo("bob@y.org", "QUIT", "RSET", "DATA", "MAIL FROM:<x@y>", "RCPT TO:<x@y>", "HELO z", "NOOP")
	expectHandedOver(t, m)
}

func TestPointsOfMessages(t *testing.T) {
	for _, c := range [][2]string{{"..", "."}, {"...", ".."}, {".a", "a"}, {"..a", ".a"}, {". ", " "}, {".. ", ". "}, {"a.", "a."}, {" .", " ."}, {"a..b", "a..b"}, {".QUIT", "QUIT"}, {"." + strings.Repeat("a", 199), strings.Repeat("a", 199)}, {strings.Repeat(".", 200), strings.Repeat(".", 199)}} {
		want := dataSession(0, 0)
		want.Draft.Lines = []string{c[1]}
		expectSaid(t, dataSession(0, 0), c[0], 0, want)
		expectSaid(t, want, ".", 250, impl.Session{State: impl.StateReady, Host: "x.org", Done: []impl.Mail{want.Draft}})
	}
}

func TestLengthOfMessages(t *testing.T) {
	for number := range 40 {
		lines := slices.Repeat([]string{"..a"}, number)
		want := dataSession(0, 0)
		want.Draft.Lines = slices.Repeat([]string{".a"}, min(number, 31))
		expectAllSaid(t, dataSession(0, 0), lines, want)
		after, reply := readySession(0), 552
		if number <= 30 {
			after.Done = []impl.Mail{want.Draft}
			reply = 250
		}
		expectAllSaid(t, dataSession(0, 0), append(lines, "."), after, reply)
	}
	endless := slices.Repeat([]string{"a"}, 100000)
	expectAllSaid(t, dataSession(0, 0), append(endless, "."), readySession(0), 552)
}

func TestLimitOfMails(t *testing.T) {
	for done := range 6 {
		s := dataSession(1, done)
		after, reply := readySession(done), 452
		if done < 5 {
			after.Done = append(after.Done, s.Draft)
			reply = 250
		}
		expectSaid(t, s, ".", reply, after)
		expectSaid(t, dataSession(31, done), ".", 552, readySession(done))
	}
	m := mailTo("bob@y.org", "a")
	s := readySession(0)
	lines, _ := impl.SpeakMail(m)
	for number := 1; number <= 7; number++ {
		want := readySession(0)
		want.Done = slices.Repeat([]impl.Mail{m}, min(number, 5))
		reply := 250
		if number > 5 {
			reply = 452
		}
		expectAllSaid(t, s, lines, want, 250, 250, 354, reply)
		s = want
	}
}

func TestLinesThatAreNoTexts(t *testing.T) {
	for _, s := range manySessions() {
		for _, line := range []string{"\r", "\n", "NOOP\r", "NOOP\n", "NOOP\r\n", "\x00", "QUIT\x00", "\tNOOP", "HELO é", "é", "\x7f", "\x80", ".\r\n", ".\n", strings.Repeat("a", 201), strings.Repeat("a", 100000), "." + strings.Repeat("a", 200), strings.Repeat(".", 201)} {
			expectNotSaid(t, s, line)
			expectNotAllSaid(t, s, line, "RSET")
			if s.State != impl.StateData {
				expectNotAllSaid(t, s, "HELO x.org", line)
			}
		}
	}
}

func TestClosedSession(t *testing.T) {
	for _, s := range closedSessions() {
		for _, line := range []string{"NOOP", "QUIT", "HELO x.org", "RSET", "DATA", "MAIL FROM:<>", "", ".", "a", "\n"} {
			expectNotSaid(t, s, line)
		}
		expectAllSaid(t, s, nil, s)
		expectAllSaid(t, s, []string{}, s)
	}
	expectAllSaid(t, impl.Session{}, []string{"QUIT"}, impl.Session{State: impl.StateClosed}, 221)
	expectNotAllSaid(t, impl.Session{}, "QUIT", "NOOP")
	expectNotAllSaid(t, impl.Session{}, "NOOP", "QUIT", "QUIT")
	expectNotAllSaid(t, readySession(3), "QUIT", "\n")
}

func TestSayAll(t *testing.T) {
	lines := []string{"HELO x.org", "MAIL FROM:<ann@x.org>", "RCPT TO:<bob@y.org>", "DATA", "Subject: hello", "", "..", "."}
	m := mailTo("bob@y.org", "Subject: hello", "", ".")
	want := impl.Session{State: impl.StateReady, Host: "x.org", Done: []impl.Mail{m}}
	expectAllSaid(t, impl.Session{}, lines, want, 250, 250, 250, 354, 250)
	again := append(slices.Clone(lines), lines...)
	want.Done = append(want.Done, m)
	expectAllSaid(t, impl.Session{}, again, want, 250, 250, 250, 354, 250, 250, 250, 250, 354, 250)
	for at := range len(lines) + 1 {
		expectNotAllSaid(t, impl.Session{}, slices.Insert(slices.Clone(lines), at, "\t")...)
		expectNotAllSaid(t, impl.Session{State: impl.StateReady}, lines[:at]...)
	}
	for _, s := range manySessions() {
		expectAllSaid(t, s, nil, s)
	}
}

// All of what a session can be told in a few lines is held against the second
// way, and one line after the other is the same as all of them together.
func TestAllDialogues(t *testing.T) {
	lines := []string{"HELO X", "MAIL FROM:<>", "mail from:<a@b>", "RCPT TO:<c@D>", "RCPT TO:<>", "DATA", "RSET", "QUIT", ".", "..", "x", "data "}
	said := 0
	var explore func(s impl.Session, before []string, replies []int)
	explore = func(s impl.Session, before []string, replies []int) {
		said++
		expectAllSaid(t, impl.Session{}, before, s, replies...)
		if len(before) == 4 {
			return
		}
		for _, line := range lines {
			if s.State == impl.StateClosed {
				expectNotSaid(t, s, line)
				continue
			}
			after, reply := expectSaidByTable(t, s, line)
			all := slices.Clone(replies)
			if reply != 0 {
				all = append(all, reply)
			}
			explore(after, append(slices.Clone(before), line), all)
		}
	}
	explore(impl.Session{}, nil, nil)
	if said < 15000 {
		t.Errorf("only %d dialogues", said)
	}
}

// From each session, the three lines after it.
func TestDialoguesOfAllSessions(t *testing.T) {
	lines := []string{"HELO z", "MAIL FROM:<>", "MAIL FROM:<a@B>", "MAIL FROM:<a>", "RCPT TO:<c@D>", "RCPT TO:<c@d", "RCPT TO:<>", "DATA", "DATA ", "RSET", "NOOP", "QUIT", "quit ", ".", "..", ".x", "x", "", "\n", "helo"}
	for _, first := range manySessions() {
		for _, one := range lines {
			second, _ := expectSaidByTable(t, first, one)
			for _, two := range lines {
				if second.State == impl.StateClosed {
					expectNotSaid(t, second, two)
					continue
				}
				third, _ := expectSaidByTable(t, second, two)
				for _, three := range lines {
					expectSaidByTable(t, third, three)
				}
			}
		}
	}
}

func TestLongDialogues(t *testing.T) {
	random := rand.New(rand.NewSource(10))
	lines := []string{
		"HELO z.net", "HELO", "MAIL FROM:<>", "MAIL FROM:<ann@X.org>", "MAIL FROM:<ann>", "RCPT TO:<bob@Y.org>", "RCPT TO:<eve@y.org>", "RCPT TO:<>",
		"RCPT TO:<cy@z.net>", "DATA", "DATA", "RSET", "NOOP", ".", ".", ".", "..", "a", "QUIT x", "VRFY",
	}
	counts := map[int]int{}
	for range 300 {
		s := impl.Session{}
		for range 300 {
			line := lines[random.Intn(len(lines))]
			if random.Intn(2) == 0 && s.State == impl.StateReady {
				line = "MAIL FROM:<cy@z.net>"
			}
			if random.Intn(3) == 0 && s.State == impl.StateTo {
				line = "RCPT TO:<di@z.net>"
			}
			reply := 0
			s, reply = expectSaidByTable(t, s, line)
			counts[reply]++
		}
		for s.State == impl.StateData && random.Intn(40) > 0 {
			s, _ = expectSaidByTable(t, s, "line")
		}
	}
	for _, reply := range []int{0, 250, 354, 452, 500, 501, 503} {
		if counts[reply] < 100 {
			t.Errorf("only %d replies are %d", counts[reply], reply)
		}
	}
}

func TestReplyText(t *testing.T) {
	texts := map[int]string{221: "221 bye", 250: "250 ok", 354: "354 go on", 452: "452 too many", 500: "500 what", 501: "501 how", 503: "503 not now", 552: "552 too long"}
	for code := -1000; code <= 2000; code++ {
		if got := impl.ReplyText(code); got != texts[code] {
			t.Errorf("ReplyText(%d) = %q, want %q", code, got, texts[code])
		}
	}
	for _, code := range []int{math.MinInt, math.MaxInt, 250 + 1<<32, 221 - 1<<16} {
		if got := impl.ReplyText(code); got != "" {
			t.Errorf("ReplyText(%d) = %q", code, got)
		}
	}
}

func expectSpoken(t *testing.T, m impl.Mail, want ...string) {
	t.Helper()
	if got, ok := impl.SpeakMail(m); !ok || !slices.Equal(got, want) {
		t.Errorf("SpeakMail(%q) = %q, %v, want %q", m, got, ok, want)
	}
	expectHandedOver(t, m)
}

func TestSpeakMail(t *testing.T) {
	expectSpoken(t, mailTo("bob@y.org"), "MAIL FROM:<ann@x.org>", "RCPT TO:<bob@y.org>", "DATA", ".")
	expectSpoken(t, mailTo("Bob@y.org", "Subject: hello", "", "a"), "MAIL FROM:<ann@x.org>", "RCPT TO:<Bob@y.org>", "DATA", "Subject: hello", "", "a", ".")
	expectSpoken(t, mailTo("a@b", ".", "..", ".a", "a.", " .", ""), "MAIL FROM:<ann@x.org>", "RCPT TO:<a@b>", "DATA", "..", "...", "..a", "a.", " .", "", ".")
	expectSpoken(t, impl.Mail{To: []string{"c@d", "a@b", "c@d"}, Lines: []string{"QUIT", "DATA", "MAIL FROM:<>"}},
		"MAIL FROM:<>", "RCPT TO:<c@d>", "RCPT TO:<a@b>", "RCPT TO:<c@d>", "DATA", "QUIT", "DATA", "MAIL FROM:<>", ".")
	longest := strings.Repeat("a", 30) + "@" + strings.Repeat("b", 40)
	expectSpoken(t, impl.Mail{From: longest, To: []string{longest}}, "MAIL FROM:<"+longest+">", "RCPT TO:<"+longest+">", "DATA", ".")
}

// A line with a point more may be too long to be said.
func TestSpeakLongLines(t *testing.T) {
	for _, first := range []string{"a", ".", "..", " ."} {
		for _, length := range []int{198, 199, 200} {
			line := first + strings.Repeat("b", length-len(first))
			for at := range 3 {
				m := mailTo("bob@y.org", slices.Insert([]string{"a", "."}, at, line)...)
				expectMail(t, m, true)
				if first[0] == '.' && length == 200 {
					expectNotSpoken(t, m)
				} else {
					expectHandedOver(t, m)
				}
			}
		}
	}
	expectNotSpoken(t, mailTo("bob@y.org", strings.Repeat("a", 201)))
}

func TestMailsAtAllLimits(t *testing.T) {
	path := strings.Repeat("A", 30) + "@" + strings.Repeat("b", 40)
	m := impl.Mail{From: path, To: slices.Repeat([]string{path}, 10), Lines: slices.Repeat([]string{strings.Repeat("~", 200)}, 30)}
	expectHandedOver(t, m)
	for _, c := range []func(*impl.Mail){
		func(m *impl.Mail) { m.From += "b" },
		func(m *impl.Mail) { m.From = "a" + m.From },
		func(m *impl.Mail) { m.To = append(m.To, path) },
		func(m *impl.Mail) { m.To[9] += "b" },
		func(m *impl.Mail) { m.Lines = append(m.Lines, "") },
		func(m *impl.Mail) { m.Lines[29] += "~" },
		func(m *impl.Mail) { m.Lines[0] += "~" },
	} {
		other := copyOfMail(m)
		c(&other)
		expectMail(t, other, false)
	}
}

// Whatever a mail has in it, it is handed over as it is.
func TestManyMailsAreHandedOver(t *testing.T) {
	random := rand.New(rand.NewSource(1010))
	locals := []string{"ann", "Bob", "a.b", "!#$", "q=1", "from", strings.Repeat("l", 30)}
	domains := []string{"x.org", "y", "a-b.c", "9.9", strings.Repeat("d", 40)}
	path := func() string {
		return locals[random.Intn(len(locals))] + "@" + domains[random.Intn(len(domains))]
	}
	pieces := []string{".", ".", "a", " ", "QUIT", "DATA", "RSET", "MAIL FROM:<a@b>", "..", "~", `"`, strings.Repeat("b", 60)}
	for range 3000 {
		m := impl.Mail{}
		if random.Intn(4) > 0 {
			m.From = path()
		}
		for range random.Intn(10) + 1 {
			m.To = append(m.To, path())
		}
		for range random.Intn(31) {
			line := ""
			for range random.Intn(4) {
				line += pieces[random.Intn(len(pieces))]
			}
			m.Lines = append(m.Lines, line)
		}
		expectMail(t, m, true)
		expectHandedOver(t, m)
	}
}

// Each mail of Done can be spoken and handed over to another session, which
// has the same mails then.
func TestPassedOnDialogue(t *testing.T) {
	first := readySession(0)
	for _, m := range []impl.Mail{mailTo("bob@y.org", ".", "a"), {To: manyPaths(10)}, mailTo("a@b", "", "."), {To: manyPaths(1), Lines: make([]string, 30)}} {
		lines, _ := impl.SpeakMail(m)
		next, _, ok := impl.SayAll(first, lines)
		if !ok {
			t.Fatalf("SayAll(%+v, %q) = %v", first, lines, ok)
		}
		first = next
	}
	second := []string{"HELO x.org"}
	for _, m := range first.Done {
		lines, ok := impl.SpeakMail(m)
		if !ok {
			t.Errorf("SpeakMail(%q) = %q, %v", m, lines, ok)
		}
		second = append(second, lines...)
	}
	s, _, ok := impl.SayAll(impl.Session{}, second)
	if !ok || !impl.SessionSame(s, first) || len(s.Done) != 4 {
		t.Errorf("SayAll(%q) = %+v, %v, want %+v", second, s, ok, first)
	}
}

// overwriteMail writes into all memory that a mail can reach.
func overwriteMail(m impl.Mail) {
	overwriteLines(m.To)
	overwriteLines(m.Lines)
}

// overwriteSession writes into all memory that a session can reach.
func overwriteSession(s impl.Session) {
	overwriteMail(s.Draft)
	all := s.Done[:cap(s.Done)]
	for i, m := range all {
		overwriteMail(m)
		all[i] = mailTo("overwritten")
	}
}

// withRoom returns a session whose slices have unused capacity, and a function
// that reports whether this is as it was.
func withRoom(s impl.Session) (impl.Session, func() bool) {
	s = copyOfSession(s)
	var rooms [][]string
	room := func(list []string) []string {
		wide := append(slices.Clone(list), "room", "room", "room")
		rooms = append(rooms, wide)
		return wide[:len(list)]
	}
	wide := func(m impl.Mail) impl.Mail {
		return impl.Mail{From: m.From, To: room(m.To), Lines: room(m.Lines)}
	}
	s.Draft = wide(s.Draft)
	for i, m := range s.Done {
		s.Done[i] = wide(m)
	}
	done := append(s.Done, mailTo("room"))
	s.Done = done[:len(s.Done):len(done)]
	return s, func() bool {
		for _, list := range rooms {
			if !slices.Equal(list[len(list)-3:], []string{"room", "room", "room"}) {
				return false
			}
		}
		return equalMails(done[len(done)-1], mailTo("room"))
	}
}

func TestSessionsShareNoMemory(t *testing.T) {
	lines := []string{"HELO z", "MAIL FROM:<a@b>", "MAIL FROM:<a>", "RCPT TO:<a@b>", "RCPT TO:<>", "DATA", "RSET", "NOOP", "QUIT", ".", "..", "x", "VRFY"}
	for _, s := range manySessions() {
		for _, line := range lines {
			given, untouched := withRoom(s)
			one, _, _ := impl.SayLine(given, line)
			two, _, _ := impl.SayLine(given, line)
			three, codes, _ := impl.SayAll(given, []string{line})
			want, reply, _ := sayByTable(s, line)
			overwriteSession(one)
			if !equalSessions(given, s) || !equalSessions(two, want) || !equalSessions(three, want) || !untouched() {
				t.Errorf("SayLine(%+v, %q) shares memory: %+v, %+v, %+v", s, line, given, two, three)
			}
			overwriteSession(three)
			if !equalSessions(given, s) || !equalSessions(two, want) || !untouched() || reply != 0 && codes[0] != reply {
				t.Errorf("SayAll(%+v, %q) shares memory: %+v, %+v", s, line, given, two)
			}
			overwriteSession(given)
			if !equalSessions(two, want) {
				t.Errorf("SayLine(%+v, %q) shares memory: %+v", s, line, two)
			}
			expectNoMemoryWithin(t, two)
		}
		given, untouched := withRoom(s)
		got, _, _ := impl.SayAll(given, nil)
		overwriteSession(got)
		if !equalSessions(given, s) || !untouched() {
			t.Errorf("SayAll(%+v) shares memory: %+v", s, given)
		}
	}
}

// expectNoMemoryWithin overwrites one slice of a session after the other; the
// ones behind it stay as they are.
func expectNoMemoryWithin(t *testing.T, s impl.Session) {
	t.Helper()
	kept := copyOfSession(s)
	overwriteLines(s.Draft.To)
	if !slices.Equal(s.Draft.Lines, kept.Draft.Lines) {
		t.Errorf("To and Lines of %+v share memory", kept)
	}
	overwriteLines(s.Draft.Lines)
	for i, m := range kept.Done {
		if !equalMails(s.Done[i], m) {
			t.Errorf("the mails of %+v share memory", kept)
		}
		overwriteLines(s.Done[i].To)
		if !slices.Equal(s.Done[i].Lines, m.Lines) {
			t.Errorf("To and Lines of %+v share memory", m)
		}
		overwriteLines(s.Done[i].Lines)
	}
}

func TestDialoguesLeaveArguments(t *testing.T) {
	lines := []string{"HELO x.org", "MAIL FROM:<>", "RCPT TO:<a@b>", "DATA", "..", "."}
	kept := slices.Clone(lines)
	impl.SayAll(impl.Session{}, lines[:3])
	first, codes, _ := impl.SayAll(impl.Session{}, lines)
	second, others, _ := impl.SayAll(impl.Session{}, lines)
	overwriteSession(first)
	for i := range codes[:cap(codes)] {
		codes[:cap(codes)][i] = 1
	}
	if !slices.Equal(lines, kept) || !slices.Equal(others, []int{250, 250, 250, 354, 250}) || !equalMails(second.Done[0], impl.Mail{To: []string{"a@b"}, Lines: []string{"."}}) {
		t.Errorf("SayAll shares memory: %q, %+v, %d", lines, second, others)
	}
	m := mailTo("bob@y.org", ".", "a")
	m.Lines = m.Lines[:1]
	one, _ := impl.SpeakMail(m)
	two, _ := impl.SpeakMail(m)
	overwriteLines(one)
	if !slices.Equal(two, []string{"MAIL FROM:<ann@x.org>", "RCPT TO:<bob@y.org>", "DATA", "..", "."}) || !equalMails(m, mailTo("bob@y.org", ".")) || m.Lines[:2][1] != "a" {
		t.Errorf("SpeakMail shares memory: %q, %q", two, m)
	}
	if impl.MailValid(m); !equalMails(m, mailTo("bob@y.org", ".")) {
		t.Errorf("MailValid changed its argument to %q", m)
	}
}
