package tests

import (
	"fmt"
	"math/rand"
	"regexp"
	"slices"
	"strconv"
	"strings"
	"testing"

	"loop.example/mailwire/impl"
)

// commandForm is the form of a line that may have an effect.
var commandForm = regexp.MustCompile(`(?s)\A(?:(say|open|pass|held|done|clear)|(say|box|take|date|address|list|kind|name) (.*))\z`)

// desk is a second interpreter, which changes what it has, and keeps its boxes
// in a map.
type desk struct {
	mails   map[string][]impl.Mail
	session impl.Session
	date    impl.Date
	output  strings.Builder
}

func (d *desk) begin() {
	d.mails = map[string][]impl.Mail{}
	d.session = impl.Session{}
	d.date = hopDate
}

func (d *desk) print(lines ...string) {
	for _, line := range lines {
		d.output.WriteString(line + "\n")
	}
}

// printIf prints a line if what was said is possible.
func (d *desk) printIf(possible bool, line string) bool {
	if possible {
		d.print(line)
	} else {
		d.print("what")
	}
	return possible
}

// runByDesk executes a script on a desk.
func runByDesk(script string) string {
	if len(script) >= 20001 {
		return "long\n"
	}
	var d desk
	d.begin()
	for i, line := range strings.SplitAfter(script, "\n") {
		line = strings.TrimSuffix(line, "\n")
		if len(line) > 0 && (i > 199 || d.output.Len() >= 40001) {
			d.print("full")
			break
		}
		if found := commandForm.FindStringSubmatch(line); found != nil {
			d.execute(found[1]+found[2], found[3])
		} else if len(line) > 0 {
			d.print("what")
		}
	}
	return d.output.String()
}

func (d *desk) execute(word string, rest string) {
	switch word {
	case "say":
		d.say(rest)
	case "open":
		d.session = impl.Session{}
		d.print("ok")
	case "box":
		_, there := d.mails[rest]
		if d.printIf(isPath(rest) && !there && len(d.mails) < 8, "ok") {
			d.mails[rest] = nil
		}
	case "pass":
		d.pass()
	case "take":
		d.take(rest)
	case "held":
		held := 0
		for _, mails := range d.mails {
			held += len(mails)
		}
		d.print(fmt.Sprint("held ", held))
	case "done":
		d.print(fmt.Sprint("done ", len(d.session.Done)))
	case "date":
		if date, ok := parseByForm(rest); d.printIf(ok, timeOf(date).Format(dateLayout)) {
			d.date = date
		}
	case "clear":
		d.begin()
		d.print("ok")
	default:
		d.show(word, rest)
	}
}

func (d *desk) say(line string) {
	s, reply, ok := sayByTable(d.session, line)
	texts := map[int]string{
		0: "-", 221: "221 bye", 250: "250 ok", 354: "354 go on", 452: "452 too many",
		500: "500 what", 501: "501 how", 503: "503 not now", 552: "552 too long",
	}
	if d.printIf(ok, texts[reply]) {
		d.session = s
	}
}

func (d *desk) pass() {
	for _, m := range d.session.Done {
		traced, ok := traceByTime(m, "gate.example", d.date)
		if !ok {
			d.print("returned")
			continue
		}
		boxes, replies := deliverByCounts(boxesOf(d.mails), normalByPlaces(traced))
		d.mails = mailsByPath(boxes)
		d.print("passed " + strings.Trim(fmt.Sprint(replies), "[]"))
	}
	d.session.Done = nil
	d.print("end")
}

func (d *desk) take(path string) {
	held := d.mails[path]
	if len(held) == 0 {
		d.print("what")
		return
	}
	d.print(taken(held[0])...)
	d.mails[path] = held[1:]
}

func (d *desk) show(word string, s string) {
	switch word {
	case "address":
		a, ok := readAddress(s)
		d.printIf(ok, "= "+addressByHand(a))
	case "list":
		var texts []string
		list, ok := readList(s)
		for _, a := range list {
			texts = append(texts, addressByHand(a))
		}
		text := strings.Join(texts, ", ")
		empty := strings.Trim(s, " ") == ""
		d.printIf((ok || empty) && len(s) <= 200 && len(list) <= 10 && len(text) <= 200, "= "+text)
	case "kind":
		k, ok := readKindByForm(s)
		d.printIf(ok, "= "+formatByParts(k))
	case "name":
		b, ok := decodeFromTheEnd(s)
		text, _ := encodeByCuts(b)
		d.printIf(ok, "= "+text)
	}
}

// addressByHand is another way to write an address that is valid.
func addressByHand(a impl.Address) string {
	if a.Name == "" {
		return a.Local + "@" + a.Domain
	}
	name := formatByParts(kind("a", "b", "c", a.Name))[len("a/b; c="):]
	return name + " <" + a.Local + "@" + a.Domain + ">"
}

// lastOf returns the last bytes of a script or an output, which may be long.
func lastOf(text string) string {
	return strconv.Quote(text[max(0, len(text)-400):])
}

// expectOutput holds the output of a script against what is wanted, and against
// the second interpreter, and reports whether it is so.
func expectOutput(t *testing.T, script string, want string) bool {
	t.Helper()
	got, second := impl.RunScript(script), runByDesk(script)
	if got != want {
		t.Errorf("RunScript(..%s) = ..%s, want ..%s", lastOf(script), lastOf(got), lastOf(want))
	}
	if second != want {
		t.Errorf("the second interpreter has ..%s for ..%s, want ..%s", lastOf(second), lastOf(script), lastOf(want))
	}
	return got == want && second == want
}

// expectByDesk holds the output of a script against the second interpreter, and
// returns it.
func expectByDesk(t *testing.T, script string) string {
	t.Helper()
	output := runByDesk(script)
	expectOutput(t, script, output)
	return output
}

// expectRun runs a script that is told line by line: `< ` is before each line of
// it, and behind this line is its output. Every part of the script up to a line
// break is a script as well.
func expectRun(t *testing.T, parts ...[]string) {
	t.Helper()
	script, output := "", ""
	for _, line := range slices.Concat(parts...) {
		said, ok := strings.CutPrefix(line, "< ")
		if !ok {
			output += line + "\n"
			continue
		}
		if !expectOutput(t, script, output) {
			return
		}
		script += said + "\n"
	}
	expectOutput(t, script, output)
	expectOutput(t, strings.TrimSuffix(script, "\n"), output)
}

// expectPrefixes holds the promise: the output of a script begins with the one
// of every part up to a line break.
func expectPrefixes(t *testing.T, script string) {
	t.Helper()
	output := impl.RunScript(script)
	for i := range len(script) {
		if script[i] != '\n' {
			continue
		}
		if got := impl.RunScript(script[:i+1]); !strings.HasPrefix(output, got) {
			t.Errorf("RunScript(%q) = %q, but RunScript(%q) = %q", script, output, script[:i+1], got)
		}
	}
}

// told returns a part of a script in which each line has the same output.
func told(output string, lines ...string) []string {
	var part []string
	for _, line := range lines {
		part = append(part, "< "+line, output)
	}
	return part
}

// ready returns the part that adds boxes, and after which mails may be said.
func ready(paths ...string) []string {
	part := told("250 ok", "say HELO x.org")
	for _, path := range paths {
		part = append(part, told("ok", "box "+path)...)
	}
	return part
}

// spoken returns the part that hands a mail over.
func spoken(m impl.Mail) []string {
	part := told("250 ok", "say MAIL FROM:<"+m.From+">")
	for _, path := range m.To {
		part = append(part, told("250 ok", "say RCPT TO:<"+path+">")...)
	}
	part = append(part, told("354 go on", "say DATA")...)
	for _, line := range m.Lines {
		if strings.HasPrefix(line, ".") {
			line = "." + line
		}
		part = append(part, told("-", "say "+line)...)
	}
	return append(part, told("250 ok", "say .")...)
}

// passing returns the part that passes mails on, with a line for each one.
func passing(output ...string) []string {
	return slices.Concat([]string{"< pass"}, output, []string{"end"})
}

// taking returns the part that takes a mail out of a box.
func taking(path string, m impl.Mail) []string {
	return append([]string{"< take " + path}, taken(m)...)
}

// taken returns the output for a mail that is taken.
func taken(m impl.Mail) []string {
	output := []string{"from <" + m.From + ">"}
	for _, line := range m.Lines {
		output = append(output, "> "+line)
	}
	return append(output, "end")
}

// counting returns the part that counts mails.
func counting(held int, done int) []string {
	return []string{"< held", "held " + strconv.Itoa(held), "< done", "done " + strconv.Itoa(done)}
}

// hopped returns a mail that was passed on, at a date with this text.
func hopped(m impl.Mail, text string) impl.Mail {
	m.Lines = append([]string{"Received: by gate.example; " + text}, m.Lines...)
	return m
}

// passed returns a mail that was passed on at the first date.
func passed(m impl.Mail) impl.Mail {
	return hopped(m, hopText)
}

// scriptOf returns the script whose parts are told.
func scriptOf(parts ...[]string) string {
	script := ""
	for _, line := range slices.Concat(parts...) {
		if said, ok := strings.CutPrefix(line, "< "); ok {
			script += said + "\n"
		}
	}
	return script
}

func TestLimitsOfScripts(t *testing.T) {
	if impl.MaxScript != 20000 || impl.MaxCommands != 200 || impl.MaxOutput != 40000 || impl.FirstSeconds != 1767593289 {
		t.Errorf("the limits are %d, %d and %d, and the first date has %d seconds", impl.MaxScript, impl.MaxCommands, impl.MaxOutput, impl.FirstSeconds)
	}
}

func TestExampleOfScripts(t *testing.T) {
	expectRun(t, []string{
		"< box bob@y.org", "ok",
		"< box ann@x.org", "ok",
		"< say HELO x.org", "250 ok",
		"< say MAIL FROM:<cy@z.org>", "250 ok",
		"< say RCPT TO:<bob@Y.org>", "250 ok",
		"< say RCPT TO:<eve@x.org>", "250 ok",
		"< say RCPT TO:<bob@y.org>", "250 ok",
		"< say DATA", "354 go on",
		"< say Subject: hello", "-",
		"< say", "-",
		"< say ..", "-",
		"< say .", "250 ok",
		"< done", "done 1",
		"< pass", "passed 250 550", "end",
		"< held", "held 1",
		"< take bob@y.org", "from <cy@z.org>", "> Received: by gate.example; Mon, 5 Jan 2026 07:08:09 +0100", "> Subject: hello", "> ", "> .", "end",
		"< say QUIT", "221 bye",
		"< say NOOP", "what",
		"< open", "ok",
		`< address "Lee, Ann" <ann@X.org>`, `= "Lee, Ann" <ann@x.org>`,
		"< name =?utf-8?q?Zo=C3=AB?=", "= =?utf-8?q?Zo=C3=AB?=",
	})
}

func TestSaying(t *testing.T) {
	expectRun(t, []string{
		"< say", "500 what", "< say ", "500 what", "< say  ", "500 what", "< say  NOOP", "500 what",
		"< say NOOP", "250 ok", "< say noop", "250 ok", "< say NOOP ", "500 what", `< say "NOOP"`, "500 what", "< say say NOOP", "500 what",
		"< say DATA", "503 not now", "< say MAIL", "501 how", "< say MAIL FROM:<a@b>", "503 not now", "< say RCPT TO:<a@b>", "503 not now",
		"< say HELO", "501 how", "< say HELO X.org", "250 ok", "< say RCPT TO:<a@b>", "503 not now", "< say DATA", "503 not now",
		"< say MAIL FROM:<>", "250 ok", "< say MAIL FROM:<>", "503 not now", "< say rset", "250 ok", "< say mail from:<cy@Z.org>", "250 ok",
		"< say DATA", "503 not now", "< say RCPT TO:<a@b>", "250 ok", "< say DATA", "354 go on",
		"< say", "-", "< say ", "-", "< say  ", "-", "< say  .", "-", "< say ..", "-", "< say . ", "-", "< say QUIT", "-", "< say open", "-", "< say say .", "-",
		"< done", "done 0", "< say .", "250 ok", "< done", "done 1", "< say", "500 what", "< say .", "500 what",
		"< box a@b", "ok", "< pass", "passed 250", "end",
		"< take a@b", "from <cy@z.org>", "> Received: by gate.example; Mon, 5 Jan 2026 07:08:09 +0100",
		"> ", "> ", ">  ", ">  .", "> .", ">  ", "> QUIT", "> open", "> say .", "end",
	})
}

// A line of a mail is all that follows the first space.
func TestSayingLinesOfMails(t *testing.T) {
	for _, line := range stringsOf([]string{"a", " ", ".", ">", `"`}, 4) {
		m := mailTo("bob@y.org", line, line+"b", " "+line)
		expectRun(t, ready("bob@y.org"), spoken(m), passing("passed 250"), taking("bob@y.org", passed(m)))
	}
}

func TestSayingBytes(t *testing.T) {
	for c := range 256 {
		if c == '\n' {
			continue
		}
		line := string([]byte{byte(c)})
		reply, within := "500 what", "-"
		if c < 32 || c > 126 {
			reply, within = "what", "what"
		}
		expectRun(t, told(reply, "say "+line+line, "say "+line+"a", "say a"+line, "say NOOP"+line), ready())
		begun := spoken(mailTo("a@b"))
		expectRun(t, ready(), begun[:len(begun)-2], told(within, "say "+line+"a", "say a"+line, "say ."+line), told("250 ok", "say ."))
	}
}

func TestSayingLongLines(t *testing.T) {
	for length := 195; length < 206; length++ {
		reply, within := "500 what", "-"
		if length > 200 {
			reply, within = "what", "what"
		}
		lines := []string{"say " + strings.Repeat("a", length), "say " + strings.Repeat(" ", length), "say NOOP" + strings.Repeat(" ", length-4)}
		begun := spoken(mailTo("a@b"))
		expectRun(t, told(reply, lines...), ready(), begun[:len(begun)-2], told(within, lines...), told("250 ok", "say ."))
	}
}

func TestSayingTooMuch(t *testing.T) {
	ten := slices.Repeat([]string{"say RCPT TO:<a@b>"}, 10)
	expectRun(t, ready(), told("250 ok", "say MAIL FROM:<>"), told("250 ok", ten[:9]...), told("250 ok", ten[:1]...), told("452 too many", ten...), told("354 go on", "say DATA"))
	for lines := 29; lines <= 33; lines++ {
		reply, done := "250 ok", 1
		if lines > 30 {
			reply, done = "552 too long", 0
		}
		part := spoken(mailTo("a@b", slices.Repeat([]string{"a"}, lines)...))
		expectRun(t, ready(), part[:len(part)-2], told(reply, "say ."), counting(0, done))
	}
	part := spoken(mailTo("a@b"))
	script := ready()
	for i := range 5 {
		script = slices.Concat(script, part, counting(0, i+1))
	}
	for range 2 {
		script = slices.Concat(script, part[:len(part)-2], told("452 too many", "say ."), counting(0, 5))
	}
	none := "passed 550"
	expectRun(t, script, passing(none, none, none, none, none), counting(0, 0), part, counting(0, 1))
}

// A session that is closed hears nothing, but what was handed over is there.
func TestClosedSessionInScripts(t *testing.T) {
	quit := told("221 bye", "say QUIT")
	deaf := told("what", "say", "say ", "say NOOP", "say QUIT", "say HELO x.org", "say RSET", "say .", "say a", "say \xff", "say "+strings.Repeat("a", 201))
	again := slices.Concat(told("250 ok", "say NOOP"), told("503 not now", "say MAIL FROM:<>"), counting(0, 0), passing())
	m := mailTo("bob@y.org", "a")
	begun := slices.Concat(ready("bob@y.org"), spoken(m))
	// Before DATA is said, a session can be closed with a draft.
	for _, count := range []int{0, 2, 4} {
		closed := slices.Concat(begun, spoken(m)[:count], quit, deaf)
		expectRun(t, closed, counting(0, 1), passing("passed 250"), counting(1, 0), deaf, passing(), taking("bob@y.org", passed(m)), deaf)
		expectRun(t, closed, told("ok", "open"), again)
		expectRun(t, closed, told("ok", "clear"), again, told("ok", "box bob@y.org"))
	}
	expectRun(t, quit, deaf, counting(0, 0), passing(), deaf)
	expectRun(t, quit, told("ok", "box a@b"), told("= a@b", "list a@B"), told("Fri, 1 Feb 2030 00:00:00 +0000", "date 1 Feb 2030 00:00 UT"), deaf, told("what", "box a@b"))
	expectRun(t, quit, deaf, told("ok", "open"), again, quit, deaf, told("ok", "open", "open"), again)
}

// Within a message, all commands but the first are as they are elsewhere.
func TestCommandsWithinMessages(t *testing.T) {
	m := mailTo("bob@y.org", "a")
	part := spoken(m)
	within := slices.Concat(counting(1, 1), told("what", ".", "RSET", "box", "box bob@y.org", "take eve@y.org"), told("= a@b", "address a@B"), told("ok", "box eve@y.org"),
		passing("passed 250"), counting(2, 0), taking("bob@y.org", passed(m)), taking("bob@y.org", passed(m)))
	expectRun(t, ready("bob@y.org"), part, passing("passed 250"), part, part[:len(part)-2], within, part[len(part)-2:], counting(0, 1), passing("passed 250"), taking("bob@y.org", passed(m)))
}

// Opening forgets all of a session, also Done, and nothing else.
func TestOpening(t *testing.T) {
	const later = "Fri, 1 Feb 2030 00:00:00 +0000"
	m := mailTo("bob@y.org", "a")
	part := spoken(m)
	begun := slices.Concat(ready("bob@y.org"), part, passing("passed 250"), told(later, "date 1 Feb 2030 00:00 UT"), part)
	again := slices.Concat(told("ok", "open"), told("503 not now", "say MAIL FROM:<>"), counting(1, 0), passing(), told("what", "box bob@y.org"),
		ready(), part, passing("passed 250"), taking("bob@y.org", passed(m)), taking("bob@y.org", hopped(m, later)))
	for count := 0; count < len(part); count += 2 {
		expectRun(t, begun, part[:count], again)
	}
	expectRun(t, told("ok", "open", "open"), ready(), told("ok", "open"), told("503 not now", "say MAIL FROM:<>"), ready(), part, counting(0, 1))
}

func TestAddingBoxes(t *testing.T) {
	expectRun(t, told("ok", "box b@b"), told("what", "box b@b", "box", "box ", "box  b@c", "box b@c ", "box a@B", "box a", "box <a@b>", "box A <a@b>", "box a@b c@d", "box b@c\r", "box \xff@b", "box \x00"),
		told("ok", "box B@b", "box b.b@b", "box b@b.b", "box b@c", "box a@b"), told("what", "box a@b", "box b@b", "box B@b"), counting(0, 0))
	var lines []string
	for _, path := range manyPaths(9) {
		lines = append(lines, "box "+path)
	}
	for number := range 8 {
		expectRun(t, told("ok", lines[:number]...), told("what", lines[:number]...), told("ok", lines[number]))
	}
	expectRun(t, told("ok", lines[:8]...), told("what", lines...), told("what", "box", "box a@b"), told("ok", "clear"), told("ok", lines[1:]...), told("what", lines...))
	for length := 28; length < 44; length++ {
		local, domain := "ok", "ok"
		if length > 30 {
			local = "what"
		}
		if length > 40 {
			domain = "what"
		}
		expectRun(t, told(local, "box "+strings.Repeat("l", length)+"@x"), told(domain, "box l@"+strings.Repeat("x", length)))
	}
}

func TestPassing(t *testing.T) {
	one, two := mailTo("bob@y.org", "a"), impl.Mail{To: []string{"cy@z.org", "bob@y.org"}, Lines: []string{"", ">", "."}}
	expectRun(t, passing(), passing(), counting(0, 0))
	expectRun(t, ready(), passing(), spoken(one), passing("passed 550"), counting(0, 0), passing(), told("what", "take bob@y.org"))
	expectRun(t, ready("bob@y.org", "cy@z.org"), spoken(one), spoken(two), counting(0, 2), passing("passed 250", "passed 250 250"), counting(3, 0), passing(), counting(3, 0),
		taking("bob@y.org", passed(one)), taking("cy@z.org", passed(two)), counting(1, 0), taking("bob@y.org", passed(two)), told("what", "take bob@y.org", "take cy@z.org"))
	expectRun(t, ready("cy@z.org"), spoken(two), spoken(one), passing("passed 250 550", "passed 550"), counting(1, 0), taking("cy@z.org", passed(two)), told("ok", "box bob@y.org"), counting(0, 0))
	expectRun(t, ready("bob@y.org", "cy@z.org"), spoken(one), passing("passed 250"), spoken(two), passing("passed 250 250"), taking("bob@y.org", passed(one)), taking("bob@y.org", passed(two)))
}

// Who is there twice gets a mail once, and has one number.
func TestPassingToSeveral(t *testing.T) {
	paths := []string{"bob@y.org", "Bob@y.org", "eve@y.org"}
	codes := []string{" 250", " 250", " 550"}
	for _, places := range stringsOver("012", 5)[1:] {
		var m impl.Mail
		output, held := "passed", 0
		for i, place := range places {
			m.To = append(m.To, paths[place-'0'])
			if strings.IndexRune(places, place) == i {
				output += codes[place-'0']
				held += strings.Count("01", string(place))
			}
		}
		expectRun(t, ready(paths[:2]...), spoken(m), passing(output), counting(held, 0))
	}
	m := impl.Mail{From: "a@b", To: manyPaths(10), Lines: []string{"a"}}
	script := slices.Concat(ready(manyPaths(8)...), spoken(m), passing("passed"+strings.Repeat(" 250", 8)+" 550 550"))
	for i, path := range manyPaths(8) {
		script = slices.Concat(script, counting(8-i, 0), taking(path, passed(m)))
	}
	expectRun(t, script)
}

// A fifth mail does not go into a box, but one that is taken makes room.
func TestPassingToFullBoxes(t *testing.T) {
	var mails []impl.Mail
	for i := range 6 {
		mails = append(mails, impl.Mail{To: []string{"bob@y.org", "eve@y.org"}, Lines: []string{strconv.Itoa(i)}})
	}
	script := ready("bob@y.org")
	for i, m := range mails[:4] {
		script = slices.Concat(script, spoken(m), passing("passed 250 550"), counting(i+1, 0))
	}
	full := slices.Concat(script, spoken(mails[4]), spoken(mails[5]), counting(4, 2))
	first, second := taking("bob@y.org", passed(mails[0])), taking("bob@y.org", passed(mails[1]))
	third, fourth := taking("bob@y.org", passed(mails[2])), taking("bob@y.org", passed(mails[3]))
	fifth, sixth := taking("bob@y.org", passed(mails[4])), taking("bob@y.org", passed(mails[5]))
	expectRun(t, full, passing("passed 452 550", "passed 452 550"), counting(4, 0), first, second, third, fourth, told("what", "take bob@y.org"))
	expectRun(t, full, first, passing("passed 250 550", "passed 452 550"), counting(4, 0), second, third, fourth, fifth, told("what", "take bob@y.org"))
	expectRun(t, full, first, second, passing("passed 250 550", "passed 250 550"), counting(4, 0), third, fourth, fifth, sixth, told("what", "take bob@y.org"))
	script = ready("bob@y.org", "eve@y.org")
	for _, m := range mails[:5] {
		script = slices.Concat(script, spoken(m))
	}
	both := "passed 250 250"
	expectRun(t, script, passing(both, both, both, both, "passed 452 452"), counting(8, 0), first, second, third, fourth, told("what", "take bob@y.org"), counting(4, 0))
}

// A mail that cannot be traced is in no box, and no longer in Done; the others
// are passed on.
func TestReturnedMails(t *testing.T) {
	good := mailTo("bob@y.org", "a")
	around := func(m impl.Mail, returned bool) {
		t.Helper()
		begun := slices.Concat(ready("bob@y.org"), spoken(good), spoken(m), spoken(good), counting(0, 3))
		took := taking("bob@y.org", passed(good))
		if returned {
			expectRun(t, begun, passing("passed 250", "returned", "passed 250"), counting(2, 0), took, took, passing(), told("what", "take bob@y.org"))
		} else {
			expectRun(t, begun, passing("passed 250", "passed 250", "passed 250"), counting(3, 0), took, taking("bob@y.org", passed(m)), took, passing(), told("what", "take bob@y.org"))
		}
	}
	for lines := 27; lines <= 30; lines++ {
		around(mailTo("bob@y.org", slices.Repeat([]string{"", "a", "b"}, 10)[:lines]...), lines == 30)
	}
	for hops := range 8 {
		lines := append(slices.Repeat([]string{"RECEIVED: x"}, hops), "Subject: hops", "", "Received: no hop")
		around(mailTo("bob@y.org", lines...), hops >= 5)
	}
	part := spoken(mailTo("bob@y.org", slices.Repeat([]string{"received:"}, 5)...))
	expectRun(t, ready("bob@y.org"), part, passing("returned"), counting(0, 0), passing(), part, part, passing("returned", "returned"), counting(0, 0))
	expectRun(t, ready(), part, passing("returned"), spoken(good), part, passing("passed 550", "returned"), counting(0, 0))
}

// A mail that is taken and handed over again and again is returned in the end.
func TestMailsInCircles(t *testing.T) {
	m := mailTo("bob@y.org", "Subject: hello", "", "a")
	script := ready("bob@y.org")
	for range 5 {
		next := passed(m)
		script = slices.Concat(script, spoken(m), passing("passed 250"), taking("bob@y.org", next))
		m = next
	}
	expectRun(t, script, spoken(m), passing("returned"), told("what", "take bob@y.org"), counting(0, 0))
}

// What was begun in a session goes on after the mails are passed on.
func TestPassingWithinMails(t *testing.T) {
	m := mailTo("bob@y.org", "a", "b")
	part := spoken(m)
	took := taking("bob@y.org", passed(m))
	for count := 0; count < len(part); count += 2 {
		expectRun(t, ready("bob@y.org"), part, part[:count], passing("passed 250"), counting(1, 0), passing(), part[count:], counting(1, 1), passing("passed 250"), took, took)
	}
}

func TestTaking(t *testing.T) {
	wrong := told("what", "take", "take ", "take eve@y.org", "take bob@Y.org", "take BOB@y.org", "take  bob@y.org", "take bob@y.org ", "take <bob@y.org>", "take bob", "take \xff", "take bob@y.org\r", "take cy@z.org")
	for _, m := range []impl.Mail{
		mailTo("bob@y.org"), {To: []string{"bob@y.org"}}, {To: []string{"eve@y.org", "bob@y.org"}, Lines: []string{"", ""}},
		{From: "Ann.b@x", To: []string{"bob@y.org"}, Lines: []string{"> a", "from <a@b>", "end", " ", "= a", "what", "< a"}},
		{From: "a'b@x-y.z", To: []string{"bob@y.org"}, Lines: slices.Repeat([]string{strings.Repeat(".", 190)}, 29)},
	} {
		output := "passed 250"
		if len(m.To) > 1 {
			output = "passed 550 250"
		}
		none := slices.Concat(wrong, told("what", "take bob@y.org"))
		expectRun(t, ready("bob@y.org", "cy@z.org"), none, spoken(m), none, passing(output), wrong, counting(1, 0), taking("bob@y.org", passed(m)), none, counting(0, 0), told("what", "box bob@y.org"))
	}
}

func TestCounting(t *testing.T) {
	script := ready("a@b", "b@b", "c@b")
	held := 0
	for i, paths := range [][]string{{"a@b"}, {"a@b", "b@b"}, {"d@b"}, {"a@b", "b@b", "c@b"}, {"b@b", "d@b"}, {"c@b", "d@b"}} {
		m := impl.Mail{To: paths}
		output := "passed"
		for _, path := range paths {
			output += map[bool]string{true: " 550", false: " 250"}[path == "d@b"]
			held += 1 - strings.Count(path, "d")
		}
		script = slices.Concat(script, spoken(m), counting(held-strings.Count(output, "250"), 1), passing(output), counting(held, 0), counting(held, 0))
		if i == 3 {
			script = slices.Concat(script, taking("a@b", passed(m)))
			held--
		}
	}
	expectRun(t, script, told("ok", "open"), counting(held, 0), told("ok", "clear"), counting(0, 0))
}

func TestSettingDates(t *testing.T) {
	m := mailTo("bob@y.org", "a")
	for said, text := range map[string]string{
		"1 Feb 2030 00:00 UT":                            "Fri, 1 Feb 2030 00:00:00 +0000",
		" fri , 01  FEB 2030  00:00:00  GMT ":            "Fri, 1 Feb 2030 00:00:00 +0000",
		"Thu, 1 Jan 1970 00:00 UT":                       "Thu, 1 Jan 1970 00:00:00 +0000",
		"31 dec 2099 23:59:59 -0000":                     "Thu, 31 Dec 2099 23:59:59 +0000",
		"29 Feb 2028 12:30:00 -1200":                     "Tue, 29 Feb 2028 12:30:00 -1200",
		"29 Feb 2028 12:30 +1400":                        "Tue, 29 Feb 2028 12:30:00 +1400",
		hopText:                                          hopText,
		"5 Jan 2026 07:08:09 +0100":                      hopText,
		"5 Jan 2026 06:08:09 UT":                         "Mon, 5 Jan 2026 06:08:09 +0000",
		"5 Jan 2026 06:08 UT" + strings.Repeat(" ", 181): "Mon, 5 Jan 2026 06:08:00 +0000",
	} {
		set := told(text, "date "+said)
		wrong := told("what", "date", "date ", "date x", "date "+said+"\r", "date x "+said, "date "+said+" x", "date 29 Feb 2027 12:30 UT", "date 31 Dec 1969 23:59 UT", "date 1 Jan 1970 00:00 +0001",
			"date 1 Jan 2100 00:00 UT", "date Tue, 5 Jan 2026 07:08:09 +0100", "date 5 Jan 2026 06:08 utc", "date 5 Jan 2026 06:08 +1401", "date 5 Jan 2026 06:08 UT"+strings.Repeat(" ", 182), "Date "+said)
		expectRun(t, wrong, ready("bob@y.org"), wrong, spoken(m), passing("passed 250"), spoken(m), set, wrong, passing("passed 250"), spoken(m), told("ok", "open"), ready(), spoken(m), passing("passed 250"),
			taking("bob@y.org", passed(m)), taking("bob@y.org", hopped(m, text)), taking("bob@y.org", hopped(m, text)), told("ok", "clear"), ready("bob@y.org"), spoken(m), passing("passed 250"), taking("bob@y.org", passed(m)))
	}
}

// All mails that are passed on together have one date, and each one has that of
// its own passing.
func TestDatesOfMails(t *testing.T) {
	script := ready("bob@y.org")
	var end []string
	for month := 1; month <= 2; month++ {
		text := date(2030, month, 3, 4, 5, 6, -90*month)
		m := mailTo("bob@y.org", "month "+strconv.Itoa(month))
		said := timeOf(text).Format(dateLayout)
		script = slices.Concat(script, told(said, "date "+said), spoken(m), spoken(m), passing("passed 250", "passed 250"))
		end = slices.Concat(end, taking("bob@y.org", hopped(m, said)), taking("bob@y.org", hopped(m, said)))
	}
	expectRun(t, script, end)
}

func TestClearing(t *testing.T) {
	m := mailTo("bob@y.org", "a")
	part := spoken(m)
	begun := slices.Concat(ready("bob@y.org", "cy@z.org"), part, passing("passed 250"), told("Fri, 1 Feb 2030 00:00:00 +0000", "date 1 Feb 2030 00:00 UT"), part)
	first := slices.Concat(told("ok", "clear"), counting(0, 0), told("503 not now", "say MAIL FROM:<>"), passing(), told("what", "take bob@y.org"),
		ready("bob@y.org"), told("what", "take bob@y.org"), part, passing("passed 250"), counting(1, 0), taking("bob@y.org", passed(m)))
	for count := 0; count < len(part); count += 2 {
		expectRun(t, begun, part[:count], first)
	}
	expectRun(t, first, first)
	expectRun(t, told("ok", "clear", "clear"), told("what", "clear ", "clear x", "clears", "CLEAR"), first)
	expectRun(t, begun, told("what", "clear ", "clear x"), counting(1, 1), passing("passed 250"), taking("bob@y.org", passed(m)))
}

func TestShowingAddresses(t *testing.T) {
	expectRun(t,
		told("= ann@x.org", "address ann@x.org", "address ann@X.ORG", "address  ann@x.org ", "address <ann@x.org>", "address  <ann@X.org>", `address "" <ann@x.org>`),
		told(`= "Lee, Ann" <ann@x.org>`, `address "Lee, Ann" <ann@X.org>`, `address "Lee,"  Ann<ann@X.org>`),
		told(`= "Ann Lee" <a.b@x-y.z>`, "address Ann Lee <a.b@x-y.z>", `address  Ann   "Lee"<a.b@X-y.Z> `),
		told("= Ann <Ann@x>", "address Ann <Ann@X>"), told(`= "\\\"" <a@b>`, `address "\\\"" <a@b>`),
		told("= "+strings.Repeat("l", 30)+"@"+strings.Repeat("d", 40), "address "+strings.Repeat("l", 30)+"@"+strings.Repeat("D", 40)),
		told("what", "address", "address ", "address  ", "address a", "address @", "address a@", "address @b", "address a@b, c@d", "address Ann", "address Ann a@b", "address <a@b", "address a@b>", "address a@b\r",
			"address é@b", "address "+strings.Repeat("l", 31)+"@d", "address l@"+strings.Repeat("d", 41), `address "`+strings.Repeat("n", 41)+`" <a@b>`, "address a@b"+strings.Repeat(" ", 198)),
		told("= a@b", "address a@b"+strings.Repeat(" ", 197)),
	)
}

func TestShowingLists(t *testing.T) {
	expectRun(t,
		told("= ", "list ", "list  ", "list "+strings.Repeat(" ", 200)), told("what", "list", "list "+strings.Repeat(" ", 201), "list ,", "list a", "list a@b,", "list ,a@b", "list a@b,,c@d", "list a@b c@d", "list a@b\r", "list é@b"),
		told("= a@b", "list a@B", "list  <a@b> "), told("= a@b, c@d", "list a@B , c@d", "list a@b,c@d", "list  a@b  ,  c@d  "),
		told(`= "Lee, Ann" <ann@x.org>, bob@y.org`, `list "Lee, Ann" <ann@X.org>,bob@y.org`), told("= a@b, a@b", "list a@b, a@b"),
	)
	for number := 8; number <= 13; number++ {
		output := "= " + strings.Join(slices.Repeat([]string{"a@b"}, number), ", ")
		if number > 10 {
			output = "what"
		}
		expectRun(t, told(output, "list "+strings.Join(slices.Repeat([]string{"a@b"}, number), ",")))
	}
}

// A list that can be read may be too long to be written.
func TestShowingLongLists(t *testing.T) {
	for number := 3; number <= 10; number++ {
		for length := 196; length <= 206; length++ {
			var texts []string
			left := length - 2*(number-1)
			for i := range number {
				a := sized(left / (number - i))
				texts = append(texts, a.Local+"@"+a.Domain)
				left -= left / (number - i)
			}
			output := "= " + strings.Join(texts, ", ")
			if length > 200 {
				output = "what"
			}
			expectRun(t, told(output, "list "+strings.Join(texts, ",")))
		}
	}
	quoted := strings.Repeat(`"`+strings.Repeat("n", 37)+`,"<a@b>,`, 4)
	expectRun(t, told("= "+strings.ReplaceAll(strings.ReplaceAll(quoted, "<", " <"), ">,", ">, ")+"cccccc@d", "list "+quoted+"cccccc@d"), told("what", "list "+quoted+"ccccccc@d"))
}

func TestShowingKinds(t *testing.T) {
	expectRun(t,
		told("= a/b; c=d", "kind A/B;C=d", "kind a/b; c=d", "kind  a/b  ;  c  =  d  ", `kind a/b;c="d"`), told("= a/b", "kind a/b", "kind A/b"),
		told("= multipart/mixed; boundary=b0", `kind Multipart/Mixed; Boundary="b0"`), told(`= text/plain; name="a; b"; charset=utf-8`, `kind text/plain; name="a; b"; charset=utf-8`),
		told("what", "kind", "kind ", "kind  ", "kind a", "kind a/", "kind /b", "kind a/b;", "kind a/b;c", "kind a/b;c=", "kind a/b; c=d; C=d", "kind a/b\r", "kind a/b; c=é", "kind a / b", "kind a/b;c=1;d=2;e=3;f=4;g=5"),
		told("= a/b; c=1; d=2; e=3; f=4", "kind a/b;c=1;d=2;e=3;f=4"), told(`= a/b; c=""`, `kind a/b; c=""`),
	)
	for length := 145; length <= 155; length++ {
		k := "a/b; c=" + strings.Repeat("v", 40) + "; d=" + strings.Repeat("v", 40) + "; e=" + strings.Repeat("v", 40) + "; f="
		k += strings.Repeat("v", length-len(k))
		output := "= " + k
		if length > 150 {
			output = "what"
		}
		expectRun(t, told(output, "kind "+k, "kind "+strings.ReplaceAll(k, "; ", ";"), "kind "+strings.ToUpper(k[:5])+k[5:]))
	}
}

func TestShowingNames(t *testing.T) {
	expectRun(t,
		told("= ", "name "), told("what", "name"), told("= =?utf-8?q?_?=", "name  "), told("= =?utf-8?q?__?=", "name   "), told("= a  b", "name a  b"), told("= =?utf-8?q?_a?=", "name  a"), told("= =?utf-8?q?a_?=", "name a "),
		told("= Ann", "name Ann", "name =?utf-8?q?Ann?=", "name =?utf-8?q?A?= =?utf-8?q?nn?="), told("= Ann Lee", "name Ann =?utf-8?q?Lee?="),
		told("= =?utf-8?q?Zo=C3=AB?=", "name =?utf-8?q?Zo=C3=AB?=", "name =?utf-8?q?Zo?= =?utf-8?q?=C3=AB?=", "name Zo\xc3\xab", "name Zoë"),
		told("= =?utf-8?q?=00=FF=0D?=", "name \x00\xff\r"), told("= =?utf-8?q?=3D=3F?=", "name =?"), told("= =?utf-8?q?=3D=3Futf-8=3Fq=3Fz?=", "name =?utf-8?q?z"),
		told("= =?utf-8?q?a=0Ab?=", "name =?utf-8?q?a=0Ab?="),
	)
	for length := 115; length <= 125; length++ {
		output := "= " + strings.Repeat("a", length)
		if length > 120 {
			output = "what"
		}
		expectRun(t, told(output, "name "+strings.Repeat("a", length)))
		b := strings.Repeat("\xff", length)
		text, _ := encodeByCuts(b)
		if length > 120 {
			expectRun(t, told("what", "name "+b, "name "+strings.Repeat("=?utf-8?q?=FF?= ", 40)))
		} else {
			expectRun(t, told("= "+text, "name "+b, "name "+text))
		}
	}
	for length := 595; length <= 605; length++ {
		coded := strings.Repeat("=?utf-8?q?aaaaaaaaaaaa?= ", 30)
		expectByDesk(t, "name "+coded[:length])
		expectByDesk(t, "name "+strings.Repeat("=?utf-8?q?=FF=FF=FF=FF=FF=FF=FF?= ", 30)[:length])
		words := strings.Repeat("=?utf-8?q?=FF=FF=FF=FF=FF?= ", 21) // 21 of 28 bytes, with 105 bytes of a name
		output := "what"
		if length <= 600 {
			text, _ := encodeByCuts(strings.Repeat("\xff", 105) + strings.Repeat(" ", 1) + strings.Repeat("b", length-588))
			output = "= " + text
		}
		expectRun(t, told(output, "name "+words+strings.Repeat("b", length-588)))
	}
}

// busy is a part of a script after which all of an interpreter differs from what
// it was at first, and telling one of which the output tells so.
func busy() []string {
	m := impl.Mail{From: "cy@z.org", To: []string{"bob@y.org"}, Lines: []string{"a"}}
	return slices.Concat(ready("bob@y.org", "ann@x.org"), spoken(m), passing("passed 250"), told("Fri, 1 Feb 2030 00:00:00 +0000", "date 1 Feb 2030 00:00 UT"), spoken(m), spoken(m)[:4])
}

func telling() []string {
	m := impl.Mail{From: "cy@z.org", To: []string{"bob@y.org"}, Lines: []string{"a"}}
	both := m
	both.To = []string{"bob@y.org", "ann@x.org"}
	return slices.Concat(counting(1, 1), told("what", "box bob@y.org", "box ann@x.org"), told("ok", "box eve@y.org"), spoken(both)[4:], passing("passed 250", "passed 250 250"),
		taking("bob@y.org", passed(m)), taking("bob@y.org", hopped(m, "Fri, 1 Feb 2030 00:00:00 +0000")), counting(2, 0))
}

// expectNothing runs lines that have no effect, and of which the output is
// `what`, at the beginning and amid others.
func expectNothing(t *testing.T, lines ...string) {
	t.Helper()
	for part := range slices.Chunk(lines, 150) {
		outputs := strings.Repeat("what\n", len(part))
		wrong := strings.Join(part, "\n") + "\n"
		for _, before := range [][]string{nil, busy()} {
			rest := telling()
			if before == nil {
				rest = ready()
			}
			script, whole := scriptOf(before), scriptOf(before, rest)
			output := impl.RunScript(script)
			expectOutput(t, script+wrong+whole[len(script):], output+outputs+impl.RunScript(whole)[len(output):])
		}
	}
}

func TestBusyInterpreters(t *testing.T) {
	expectRun(t, busy(), telling())
	expectRun(t, busy(), told("what", "x"), telling(), told("what", " "))
}

func TestLinesThatAreNoCommands(t *testing.T) {
	expectNothing(t, " ", "  ", "\t", "\r", "\x00", "x", "-", ".", "=", ">", "end", "what", "ok", "full", "long", "é", "\xff", "HELO x.org", "NOOP", "QUIT", "RSET", "MAIL FROM:<>", "250 ok", "# a", "// a", "exit", "help")
	words := []string{"say", "open", "box", "pass", "take", "held", "done", "date", "clear", "address", "list", "kind", "name"}
	for _, word := range words {
		expectNothing(t, " "+word, "  "+word, " "+word+" ", word+"s", word+"s ", word+".", word+"\r", word+"\t", word+"\x00", "\t"+word, "-"+word, `"`+word+`"`, word+word, word+","+word, word+"\tx", word+":x", word+"\ta@b", word+"=a@b",
			strings.ToUpper(word), strings.ToUpper(word)+" ", strings.ToUpper(word[:1])+word[1:], strings.ToUpper(word)+" a@b", "\xef\xbb\xbf"+word, word+"\u00a0", word+"\u00a0a@b", strings.Replace(word, "a", "а", 1)+"х")
	}
	for _, word := range []string{"open", "pass", "held", "done", "clear"} {
		expectNothing(t, word+" ", word+"  ", word+" x", word+" "+word, word+" a@b", word+" bob@y.org", word+" 1", word+" \r", word+" \x00", word+"  x")
	}
	for _, word := range []string{"box", "take", "date", "address", "list", "kind", "name"} {
		expectNothing(t, word)
	}
	for _, word := range []string{"box", "take", "date", "address", "kind"} {
		expectNothing(t, word+" ", word+"  ", word+" x", word+" "+word, word+" \r", word+" \x00", word+" \xff", word+" "+strings.Repeat("x", 201))
	}
}

// slipsOf returns a word in which one byte is another one, is left out, or comes
// in.
func slipsOf(word string) []string {
	var slips []string
	for at := range len(word) + 1 {
		for c := range 256 {
			slips = append(slips, word[:at]+string([]byte{byte(c)})+word[at:])
			if at < len(word) {
				slips = append(slips, word[:at]+string([]byte{byte(c)})+word[at+1:], word[:at]+word[at+1:])
			}
		}
	}
	slices.Sort(slips)
	return slices.Compact(slips)
}

func TestCommandsWithOneSlip(t *testing.T) {
	for _, line := range []string{"say NOOP", "say", "open", "box a@b", "pass", "take bob@y.org", "held", "done", "date 1 Feb 2030 00:00 UT", "clear", "address a@b", "list a@b", "kind a/b", "name a"} {
		word, rest, more := strings.Cut(line, " ")
		begin := word
		if more {
			begin += " "
		}
		var wrong []string
		for _, slip := range slipsOf(begin) {
			// The word itself is no slip, whatever its rest is.
			if slip != word && !strings.HasPrefix(slip, word+" ") && !strings.Contains(slip, "\n") {
				wrong = append(wrong, slip+rest)
			}
		}
		if len(wrong) < 500*len(begin) {
			t.Errorf("there are %d slips for %q", len(wrong), line)
		}
		expectNothing(t, wrong...)
	}
}

func TestLinesWithoutEffect(t *testing.T) {
	expectNothing(t, "say \x00", "say \xff", "say "+strings.Repeat("a", 201), "say é", "say \r", "box a@B", "take eve@y.org", "take ann@x.org", "date 29 Feb 2027 12:30 UT", "address a", "list a", "list a@b,", "kind a", "kind a/b;", "name "+strings.Repeat("a", 121), "name "+strings.Repeat("a", 601))
}

// Commands that only show something leave all as it is.
func TestCommandsWithoutEffect(t *testing.T) {
	shown := slices.Concat(told("= a@b", "address a@B", "list a@B"), told("= a/b", "kind a/B"), told("= a", "name a"), told("held 1", "held"), told("done 1", "done"))
	expectRun(t, busy(), shown, telling())
	expectRun(t, busy(), shown, shown, telling())
}

func TestEmptyLines(t *testing.T) {
	for _, script := range []string{"", "\n", "\n\n", strings.Repeat("\n", 199), strings.Repeat("\n", 200), strings.Repeat("\n", 1000), strings.Repeat("\n", 20000)} {
		expectOutput(t, script, "")
	}
	expectOutput(t, "\n\nheld\n\n\ndone\n\n", "held 0\ndone 0\n")
	expectOutput(t, "held\n\r\ndone\n \nheld", "held 0\nwhat\ndone 0\nwhat\nheld 0\n")
	expectOutput(t, "held\r\ndone\r\n", "what\nwhat\n")
	expectOutput(t, "held\rdone", "what\n")
	script := scriptOf(busy(), telling())
	output := impl.RunScript(script)
	expectOutput(t, strings.ReplaceAll(script, "\n", "\n\n"), output)
	expectOutput(t, "\n\n"+strings.ReplaceAll(script, "\n", "\n\n\n"), output)
	for i := range len(script) {
		if script[i] == '\n' {
			expectOutput(t, script[:i]+"\n"+script[i:], output)
		}
	}
}

// Without the newline at its end, the last line is a line as well.
func TestLastLines(t *testing.T) {
	for _, line := range []string{"held", "say", "say ", "list ", "name ", "open", "x", " ", "pass", "box a@b", "clear"} {
		output := impl.RunScript(line + "\n")
		if strings.Count(output, "\n") != 1 {
			t.Errorf("RunScript(%q) = %q", line+"\n", output)
		}
		expectOutput(t, line, output)
		expectOutput(t, line+"\n", output)
		expectOutput(t, line+"\n\n", output)
		expectOutput(t, "held\n"+line, "held 0\n"+output)
	}
}

func TestLengthOfScripts(t *testing.T) {
	for length := 19997; length <= 20003; length++ {
		tooLong := length > 20000
		scripts := map[string]string{
			strings.Repeat("\n", length):                                       "",
			strings.Repeat("a", length):                                        "what\n",
			strings.Repeat("\xff", length):                                     "what\n",
			strings.Repeat(" ", length):                                        "what\n",
			"say " + strings.Repeat("a", length-4):                             "what\n",
			"held\n" + strings.Repeat("a", length-5):                           "held 0\nwhat\n",
			"held\n" + strings.Repeat("a", length-6) + "\n":                    "held 0\nwhat\n",
			"held\n" + strings.Repeat("\n", length-10) + "held\n":              "held 0\nfull\n",
			strings.Repeat(strings.Repeat("a", 99)+"\n", 300)[:length]:         strings.Repeat("what\n", 200),
			strings.Repeat("say "+strings.Repeat("a", 95)+"\n", 300)[:length]:  strings.Repeat("500 what\n", 200),
			strings.Repeat("list "+strings.Repeat(" ", 94)+"\n", 300)[:length]: strings.Repeat("= \n", 200),
		}
		for script, output := range scripts {
			if len(script) != length {
				t.Errorf("a script has %d bytes, not %d", len(script), length)
			}
			if tooLong {
				output = "long\n"
			}
			expectOutput(t, script, output)
		}
	}
	expectOutput(t, strings.Repeat("held\n", 1<<20), "long\n")
	expectOutput(t, strings.Repeat("\n", 1<<20), "long\n")
}

func TestNumberOfLines(t *testing.T) {
	for number := range 211 {
		full := strings.Repeat("full\n", min(max(0, number-200), 1))
		executed := min(number, 200)
		for line, output := range map[string]string{"held\n": "held 0\n", "x\n": "what\n", "say\n": "500 what\n", "list \n": "= \n", "open\n": "ok\n", "clear\n": "ok\n", " \n": "what\n", "pass\n": "end\n"} {
			expectOutput(t, strings.Repeat(line, number), strings.Repeat(output, executed)+full)
			expectOutput(t, strings.Repeat(line, number)+"\n\n\n", strings.Repeat(output, executed)+full)
		}
		for _, lines := range []string{strings.Repeat("\n", number), strings.Repeat("\n\n", number/2) + strings.Repeat("\n", number%2)} {
			output := "held 0\n"
			if number >= 200 {
				output = "full\n"
			}
			expectOutput(t, lines, "")
			expectOutput(t, lines+"held", output)
			expectOutput(t, lines+"x\n", strings.Replace(output, "held 0", "what", 1))
			expectOutput(t, lines+" ", strings.Replace(output, "held 0", "what", 1))
		}
	}
	expectOutput(t, strings.Repeat("\n", 199)+"held\nheld\nheld\n", "held 0\nfull\n")
	expectOutput(t, strings.Repeat("held\n\n", 100)+"held\nheld\n", strings.Repeat("held 0\n", 100)+"full\n")
	expectOutput(t, strings.Repeat("held\nx\n\n", 70), strings.Repeat("held 0\nwhat\n", 67)+"full\n")
	expectOutput(t, strings.Repeat("held\n", 200)+strings.Repeat("\n", 500)+"x\nheld\n", strings.Repeat("held 0\n", 200)+"full\n")
}

// scriptWithOutput returns a script with an output of a number of bytes, most of
// it of a mail that goes to eight boxes, of which two are left.
func scriptWithOutput(size int) string {
	m := impl.Mail{From: "a@b", To: manyPaths(8), Lines: slices.Repeat([]string{strings.Repeat("l", 200)}, 29)}
	script := scriptOf(ready(manyPaths(8)...), spoken(m), []string{"< pass"})
	for _, path := range manyPaths(6) {
		script += "take " + path + "\n"
	}
	left := size - len(runByDesk(script))
	for left > 0 {
		// The shortest output has three bytes, which are kept for the last one.
		bytes := left
		if left > 123 {
			bytes = min(123, left-3)
		}
		script += "name " + strings.Repeat("n", bytes-3) + "\n"
		left -= bytes
	}
	return script
}

func TestLengthOfOutput(t *testing.T) {
	for size := 39990; size <= 40010; size++ {
		script := scriptWithOutput(size)
		output := impl.RunScript(script)
		if len(output) != size {
			t.Errorf("the output has %d bytes, not %d", len(output), size)
		}
		expectOutput(t, script, output)
		expectOutput(t, script+"\n\n\n", output)
		for line, behind := range map[string]string{"held": "held 2\n", "x": "what\n", " ": "what\n", "list ": "= \n", "pass": "end\n", "clear": "ok\n"} {
			if size > 40000 {
				behind = "full\n"
			}
			expectOutput(t, script+line, output+behind)
			expectOutput(t, script+"\n\n"+line+"\n", output+behind)
			expectByDesk(t, script+line+"\n\n"+line+"\nheld\n"+line)
		}
	}
}

// A line is executed as a whole, however long its output is.
func TestOutputBehindTheLimit(t *testing.T) {
	last := manyPaths(8)[7]
	script := scriptWithOutput(40000) + "take " + last + "\n"
	output := impl.RunScript(script)
	if len(output) < 45900 || !strings.HasSuffix(output, "l\nend\n") {
		t.Errorf("the output has %d bytes, and ends with %s", len(output), lastOf(output))
	}
	expectOutput(t, script, output)
	expectOutput(t, script+"clear", output+"full\n")
	expectOutput(t, script+strings.Repeat("\n", 200)+"clear\nclear\n", output+"full\n")
	expectOutput(t, scriptWithOutput(40001)+"take "+last, impl.RunScript(scriptWithOutput(40001))+"full\n")
	expectOutput(t, script+strings.Repeat("\n", 20000-len(script)), output)
	expectOutput(t, script+strings.Repeat("\n", 20001-len(script)), "long\n")
	expectPrefixes(t, script+"held\n\nheld\nheld\n")
}

// A script begins anew, whatever was executed before it.
func TestScriptsAreApart(t *testing.T) {
	script := scriptOf(busy(), telling())
	output := impl.RunScript(script)
	for range 3 {
		impl.RunScript(scriptOf(busy()))
		expectOutput(t, "held\ndone\ntake bob@y.org\n", "held 0\ndone 0\nwhat\n")
		expectOutput(t, script, output)
	}
}

// blocks are parts of scripts that are joined in all ways.
func blocks() []string {
	good, hops := mailTo("bob@y.org", ".", ""), mailTo("bob@y.org", slices.Repeat([]string{"Received:"}, 5)...)
	good.To = append(good.To, "eve@x.org", "bob@y.org")
	return []string{
		scriptOf(ready()), scriptOf(spoken(good)), scriptOf(spoken(hops)), scriptOf(spoken(good)[:6]), "box bob@y.org\n", "box eve@x.org\n", "pass\n", "take bob@y.org\n",
		"say QUIT\n", "open\n", "clear\n", "held\n", "done\n", "date 1 Feb 2030 00:00 UT\n", "say\n", "say .\n", "\n", "x\n", "list \n",
	}
}

// Every script of up to three parts, and one that tells what it did, has the
// output of the second interpreter.
func TestScriptsOfBlocks(t *testing.T) {
	end := scriptOf(spoken(mailTo("bob@y.org", "end"))) + "held\ndone\npass\ntake bob@y.org\ntake eve@x.org\nheld\nbox bob@y.org\nbox eve@x.org\n"
	for _, script := range stringsOf(blocks(), 3) {
		for _, begin := range []string{"", scriptOf(ready("bob@y.org"))} {
			output := expectByDesk(t, begin+script+end)
			if got := impl.RunScript(begin + script); !strings.HasPrefix(output, got) {
				t.Errorf("the output %q of %q does not begin with %q", output, begin+script+end, got)
			}
		}
	}
}

// randomLine returns a line of any kind.
func randomLine(random *rand.Rand) string {
	pick := func(list ...string) string { return list[random.Intn(len(list))] }
	path := pick("bob@y.org", "bob@y.org", "ann@x.org", "Bob@y.org", "eve@x.org", "a@b", "bob@Y.org", "bob")
	rest := pick(path, "", " ", "NOOP", "x", "\xff", "HELO x.org", "MAIL FROM:<"+path+">", "RCPT TO:<"+path+">", "DATA", ".", "RSET", "QUIT", "Received: x", `"Lee, A" <`+path+">", "a/B; c=d", "=?utf-8?q?=FF?=", "1 Feb 2030 00:00 UT", "5 Jan 2026 07:08 +0100")
	return pick("say "+rest, "say", "open", "box "+path, "box "+rest, "pass", "take "+path, "held", "done", "date "+rest, "address "+rest, "list "+rest, "list "+path+","+path, "kind "+rest, "name "+rest, "", " ", rest, pick("clear", "x")) + "\n"
}

// randomScript returns a script of any length.
func randomScript(random *rand.Rand) string {
	script := scriptOf(ready("bob@y.org"))
	paths := []string{"bob@y.org", "ann@x.org", "Bob@y.org", "eve@x.org"}
	lines := []string{"", "a", ".", "Received: x", "received:", strings.Repeat("long ", 40), " "}
	for range random.Intn(40) {
		switch random.Intn(8) {
		case 0:
			script += "pass\n"
		case 1, 2:
			m := impl.Mail{To: []string{paths[random.Intn(4)]}}
			for range random.Intn(4) {
				m.To = append(m.To, paths[random.Intn(4)])
			}
			for range random.Intn(random.Intn(32) + 1) {
				m.Lines = append(m.Lines, lines[random.Intn(len(lines))])
			}
			script += scriptOf(spoken(m))
		case 3:
			script += "take bob@y.org\nsay HELO x.org\n"
		default:
			script += randomLine(random)
		}
	}
	return script
}

func TestRandomScripts(t *testing.T) {
	random := rand.New(rand.NewSource(12))
	seen := map[string]int{}
	for range 1500 {
		script := randomScript(random)
		for line := range strings.SplitSeq(expectByDesk(t, script), "\n") {
			word, _, _ := strings.Cut(line, " ")
			seen[word]++
		}
		for line := range strings.SplitSeq(expectByDesk(t, script+"x"), "\n") {
			seen[line]++
		}
	}
	for _, output := range []string{"full", "returned", "passed 250", "passed 550", "passed 452", "passed 250 550", "passed 452 550", "end", "221 bye", "500 what", "501 how", "503 not now", "552 too long", "452 too many", "-", "what", "from", ">", "=", "held 3", "done 2", "= "} {
		if seen[output] == 0 {
			t.Errorf("no script has the output %q", output)
		}
	}
}

// Unless a script is too long, its output begins with the output of every prefix
// that ends at a line break.
func TestPrefixesOfScripts(t *testing.T) {
	random := rand.New(rand.NewSource(13))
	for range 60 {
		expectPrefixes(t, randomScript(random))
	}
	expectPrefixes(t, scriptOf(busy(), telling()))
	expectPrefixes(t, strings.Repeat("held\n\n", 110))
	expectPrefixes(t, strings.Repeat("\n", 205)+"held\nx")
	expectPrefixes(t, scriptWithOutput(40001)+"x\n\nheld\n")
	// One that is too long has another output than its prefixes.
	expectOutput(t, "held\n"+strings.Repeat("\n", 19996), "long\n")
	expectOutput(t, "held\n"+strings.Repeat("\n", 19995), "held 0\n")
}

// No bytes of a script stop it.
func TestScriptsOfAllBytes(t *testing.T) {
	random := rand.New(rand.NewSource(14))
	for range 300 {
		script := make([]byte, random.Intn(3000))
		for i := range script {
			script[i] = byte(random.Intn(256))
		}
		output := expectByDesk(t, string(script))
		if strings.Trim(output, "what\nful") != "" {
			t.Errorf("RunScript(%q) = %q", script, output)
		}
	}
	for _, script := range stringsOver("say \n.\r", 5) {
		expectByDesk(t, script)
	}
	for _, script := range stringsOf([]string{"list", "name", "say", " ", "\n", "a@b", ","}, 5) {
		expectByDesk(t, script)
	}
}
