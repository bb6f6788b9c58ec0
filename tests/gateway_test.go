package tests

import (
	"fmt"
	"math/rand"
	"regexp"
	"slices"
	"sort"
	"strings"
	"testing"

	"loop.example/mailwire/impl"
)

// hopForm matches a line that tells of a hop.
var hopForm = regexp.MustCompile(`\A(?i:received:)`)

// hopDate is a date of which the tests know the text.
var hopDate = date(2026, 1, 5, 7, 8, 9, 60)

const hopText = "Mon, 5 Jan 2026 07:08:09 +0100"

// short returns the beginning of the text of a value, which may be long.
func short(value any) string {
	text := fmt.Sprintf("%q", value)
	return text[:min(len(text), 1000)]
}

func box(path string, mails ...impl.Mail) impl.Box {
	return impl.Box{Path: path, Mails: mails}
}

// mailsOf returns a number of mails to a path, all of them different.
func mailsOf(path string, number int) []impl.Mail {
	var mails []impl.Mail
	for i := range number {
		mails = append(mails, mailTo(path, slices.Repeat([]string{"line"}, i)...))
	}
	return mails
}

// manyBoxes returns boxes in order, each with a number of mails.
func manyBoxes(number int, mails int) []impl.Box {
	var list []impl.Box
	for i := range number {
		path := string(rune('a'+i)) + "@x.org"
		list = append(list, box(path, mailsOf(path, mails)...))
	}
	return list
}

// manyGateways returns valid boxes of all kinds.
func manyGateways() [][]impl.Box {
	return [][]impl.Box{
		nil, {}, {box("bob@y.org")}, {box("ann@x.org"), box("bob@y.org")},
		{box("bob@y.org", mailsOf("bob@y.org", 1)...)}, {box("bob@y.org", mailsOf("bob@y.org", 4)...)},
		{box("a@b", mailTo("c@d"), impl.Mail{To: manyPaths(10)}), box("c@d")},
		{box("A@b"), box("B@b", mailTo("a@b", "a")), box("a.b@c"), box("a@b", mailTo("a@b", ".")), box("a@b.c"), box("a@c")},
		manyBoxes(7, 0), manyBoxes(8, 0), manyBoxes(7, 4), manyBoxes(8, 3), manyBoxes(8, 4),
	}
}

// wrongGateways returns boxes that are not valid.
func wrongGateways() [][]impl.Box {
	return [][]impl.Box{
		{{}}, {box("", mailTo("a@b"))}, {box("a")}, {box("a@B")}, {box("@")}, {box("Ann <a@b>")},
		{box("a@b"), box("a@b")}, {box("b@c"), box("a@c")}, {box("a@c"), box("B@c")}, {box("a@b"), box("c@d"), box("b@c")}, {box("a@b"), box("")}, {box(""), box("a@b")}, {box("a@b"), {}, box("c@d")},
		{box("a@b", impl.Mail{})}, {box("a@b", mailTo("a"))}, {box("a@b", mailTo("a@b"), mailTo(""))}, {box("a@b", mailTo("a@b", "\n"))}, {box("a@b"), box("b@b", mailTo("a@b", make([]string, 31)...))},
		{box("a@b", mailsOf("a@b", 5)...)}, {box("a@b"), box("b@c", mailsOf("b@c", 5)...)},
		manyBoxes(9, 0), manyBoxes(9, 4), manyBoxes(8, 5), manyBoxes(20, 0), make([]impl.Box, 1<<20), {box("a@b", make([]impl.Mail, 1<<20)...)},
	}
}

// manyMailsToPass returns valid mails of all kinds.
func manyMailsToPass() []impl.Mail {
	return []impl.Mail{
		mailTo("bob@y.org"), mailTo("ann@x.org", "Subject: hello", "", "a"), {To: []string{"a@x.org"}}, {To: manyPaths(10), Lines: []string{"a"}},
		{From: "Ann@x", To: []string{"a@b", "c@d", "a@b"}, Lines: []string{"Received: a", "", "Received: b"}},
		{From: "a@b", To: slices.Repeat([]string{"b@x.org"}, 10), Lines: slices.Repeat([]string{"received:"}, 30)},
		{To: []string{"c@x.org", "b@y.org", "a@x.org", "B@y.org", "c@x.org", "b@x"}, Lines: make([]string, 30)},
		{From: "a@b", To: []string{"a@b"}, Lines: slices.Repeat([]string{"Received: x"}, 4)},
	}
}

// wrongMails returns mails that are not valid.
func wrongMails() []impl.Mail {
	return []impl.Mail{
		{}, {From: "a@b"}, {From: "a@b", Lines: []string{"Received: a"}}, mailTo(""), mailTo("a"), mailTo("a@B"), mailTo("Bob@Y.org", "a"), mailTo("bob@y.org", "\r"), mailTo("bob@y.org", strings.Repeat("a", 201)),
		{From: "a", To: []string{"a@b"}}, {From: "a@B", To: []string{"a@b"}}, {To: []string{"a@b", ""}}, {To: []string{"a@b", "a@b", "b"}}, {To: manyPaths(11)}, {To: slices.Repeat([]string{"a@b"}, 11)},
		mailTo("bob@y.org", make([]string, 31)...), mailTo("bob@y.org", "Received: é"), mailTo("bob@y.org", "", "\t"), {To: make([]string, 1<<20), Lines: make([]string, 1<<20)},
	}
}

func equalBoxes(a []impl.Box, b []impl.Box) bool {
	return slices.EqualFunc(a, b, func(x impl.Box, y impl.Box) bool {
		return x.Path == y.Path && slices.EqualFunc(x.Mails, y.Mails, equalMails)
	})
}

func copyOfBoxes(list []impl.Box) []impl.Box {
	list = slices.Clone(list)
	for i, b := range list {
		list[i].Mails = slices.Clone(b.Mails)
		for j, m := range b.Mails {
			list[i].Mails[j] = copyOfMail(m)
		}
	}
	return list
}

// isGateway reports whether boxes are valid: sorted, with each path once, they
// are as they were.
func isGateway(list []impl.Box) bool {
	if len(list) > 8 {
		return false
	}
	paths := map[string]bool{}
	var order []string
	for _, b := range list {
		paths[b.Path] = true
		order = append(order, b.Path)
		if !isPath(b.Path) || len(b.Mails) > 4 {
			return false
		}
		for _, m := range b.Mails {
			if !isMail(m, 1, 30) {
				return false
			}
		}
	}
	return sort.StringsAreSorted(order) && len(paths) == len(list)
}

// boxesOf returns what a map of mails by their paths has, as boxes.
func boxesOf(mails map[string][]impl.Mail) []impl.Box {
	var list []impl.Box
	for path, held := range mails {
		list = append(list, box(path, held...))
	}
	sort.Slice(list, func(i int, j int) bool { return list[i].Path < list[j].Path })
	return list
}

// mailsByPath returns the mails of boxes, in memory of their own.
func mailsByPath(list []impl.Box) map[string][]impl.Mail {
	mails := map[string][]impl.Mail{}
	for _, b := range copyOfBoxes(list) {
		mails[b.Path] = b.Mails
	}
	return mails
}

// withTo returns a mail that goes to others.
func withTo(m impl.Mail, to ...string) impl.Mail {
	m = copyOfMail(m)
	m.To = to
	return m
}

// normalByPlaces keeps each To that is at its first place.
func normalByPlaces(m impl.Mail) impl.Mail {
	var to []string
	for i, path := range m.To {
		if slices.Index(m.To, path) == i {
			to = append(to, path)
		}
	}
	return withTo(m, to...)
}

// splitByEnds looks for all To with the end of one To after the other.
func splitByEnds(m impl.Mail) []impl.Mail {
	left := normalByPlaces(m).To
	var split []impl.Mail
	for len(left) > 0 {
		end := left[0][strings.Index(left[0], "@"):]
		var to, others []string
		for _, path := range left {
			if strings.HasSuffix(path, end) {
				to = append(to, path)
			} else {
				others = append(others, path)
			}
		}
		split = append(split, withTo(m, to...))
		left = others
	}
	return split
}

// hopsByForm counts hops from the last line to the first.
func hopsByForm(m impl.Mail) int {
	hops := 0
	for i := len(m.Lines) - 1; i >= 0; i-- {
		if m.Lines[i] == "" {
			hops = 0
		} else if hopForm.MatchString(m.Lines[i]) {
			hops++
		}
	}
	return hops
}

// traceByTime traces a mail, with the text of a date of the package time.
func traceByTime(m impl.Mail, host string, d impl.Date) (impl.Mail, bool) {
	if !isMail(m, 1, 29) || !isDomain(host) || !validByTime(d) || hopsByForm(m) > 4 {
		return impl.Mail{}, false
	}
	lines := []string{"Received: by " + host + "; " + timeOf(d).Format(dateLayout)}
	return impl.Mail{From: m.From, To: m.To, Lines: append(lines, m.Lines...)}, true
}

// deliverByCounts first replies, by how often a To came before, and then puts
// the mails with the reply 250 into the boxes.
func deliverByCounts(list []impl.Box, m impl.Mail) ([]impl.Box, []int) {
	mails := mailsByPath(list)
	counts := map[string]int{}
	var replies []int
	for _, path := range m.To {
		held, there := mails[path]
		reply := 250
		if !there {
			reply = 550
		} else if len(held)+counts[path] >= 4 {
			reply = 452
		}
		replies = append(replies, reply)
		counts[path]++
	}
	for i, reply := range replies {
		if reply == 250 {
			mails[m.To[i]] = append(mails[m.To[i]], withTo(m, m.To[i]))
		}
	}
	return boxesOf(mails), replies
}

func expectGateway(t *testing.T, list []impl.Box, want bool) {
	t.Helper()
	if got := impl.BoxesValid(list); got != want {
		t.Errorf("BoxesValid(%s) = %v", short(list), got)
	}
	if isGateway(list) != want {
		t.Errorf("the second way differs for %s", short(list))
	}
	held := 0
	for _, b := range list {
		if want {
			held += len(b.Mails)
		}
	}
	if got := impl.CountHeld(list); got != held {
		t.Errorf("CountHeld(%s) = %d, want %d", short(list), got, held)
	}
	if !want {
		expectNotAdded(t, list, "z@z")
		expectNotDelivered(t, list, mailTo("a@b"))
		expectNotTaken(t, list, "a@b")
	}
}

func expectAdded(t *testing.T, list []impl.Box, path string, want ...impl.Box) {
	t.Helper()
	kept := copyOfBoxes(list)
	if got, ok := impl.AddBox(list, path); !ok || !equalBoxes(got, want) {
		t.Errorf("AddBox(%q, %q) = %q, %v, want %q", list, path, got, ok, want)
	}
	if !equalBoxes(list, kept) {
		t.Errorf("AddBox(%q, %q) changed the boxes to %q", kept, path, list)
	}
	expectGateway(t, want, true)
}

func expectNotAdded(t *testing.T, list []impl.Box, path string) {
	t.Helper()
	if got, ok := impl.AddBox(list, path); ok || len(got) != 0 {
		t.Errorf("AddBox(%s, %q) = %q, %v, want none", short(list), path, got, ok)
	}
}

func expectNormalMail(t *testing.T, m impl.Mail, to ...string) {
	t.Helper()
	kept := copyOfMail(m)
	if got, ok := impl.NormalMail(m); !ok || !equalMails(got, withTo(m, to...)) {
		t.Errorf("NormalMail(%q) = %q, %v, want to %q", m, got, ok, to)
	}
	if !equalMails(m, kept) {
		t.Errorf("NormalMail(%q) changed the mail to %q", kept, m)
	}
}

func expectSplitMail(t *testing.T, m impl.Mail, to ...[]string) {
	t.Helper()
	var want []impl.Mail
	for _, paths := range to {
		want = append(want, withTo(m, paths...))
	}
	kept := copyOfMail(m)
	if got, ok := impl.SplitMail(m); !ok || !slices.EqualFunc(got, want, equalMails) {
		t.Errorf("SplitMail(%q) = %q, %v, want %q", m, got, ok, want)
	}
	if !equalMails(m, kept) {
		t.Errorf("SplitMail(%q) changed the mail to %q", kept, m)
	}
}

// expectAsByPlaces holds what becomes of the To of a mail against the second
// ways.
func expectAsByPlaces(t *testing.T, m impl.Mail) {
	t.Helper()
	expectNormalMail(t, m, normalByPlaces(m).To...)
	var to [][]string
	for _, one := range splitByEnds(m) {
		to = append(to, one.To)
	}
	expectSplitMail(t, m, to...)
}

func expectHops(t *testing.T, want int, lines ...string) {
	t.Helper()
	m := mailTo("bob@y.org", lines...)
	if got, ok := impl.CountHops(m); !ok || got != want {
		t.Errorf("CountHops(%q) = %d, %v, want %d", m, got, ok, want)
	}
	if got := hopsByForm(m); got != want {
		t.Errorf("the second way has %d hops for %q", got, m)
	}
	expectTracedByTime(t, m, "gate.example", hopDate)
}

// expectTracedByTime holds a trace of any mail, host and date against the second
// way, and returns the mail and whether it can be passed on.
func expectTracedByTime(t *testing.T, m impl.Mail, host string, d impl.Date) (impl.Mail, bool) {
	t.Helper()
	kept := copyOfMail(m)
	want, traced := traceByTime(m, host, d)
	got, ok := impl.TraceMail(m, host, d)
	if ok != traced || !equalMails(got, want) {
		t.Errorf("TraceMail(%q, %q, %v) = %q, %v, want %q, %v", m, host, d, got, ok, want, traced)
	}
	if !equalMails(m, kept) {
		t.Errorf("TraceMail(%q, %q, %v) changed the mail to %q", kept, host, d, m)
	}
	if traced && !impl.MailValid(got) {
		t.Errorf("TraceMail(%q, %q, %v) = %q, which is not valid", m, host, d, got)
	}
	return want, traced
}

func expectNotTraced(t *testing.T, m impl.Mail, host string, d impl.Date) {
	t.Helper()
	if got, ok := impl.TraceMail(m, host, d); ok || !equalMails(got, impl.Mail{}) {
		t.Errorf("TraceMail(%s, %q, %v) = %q, %v, want none", short(m), host, d, got, ok)
	}
}

func expectDelivered(t *testing.T, list []impl.Box, m impl.Mail, want []impl.Box, replies ...int) {
	t.Helper()
	boxes, mail := copyOfBoxes(list), copyOfMail(m)
	if got, codes, ok := impl.DeliverMail(list, m); !ok || !equalBoxes(got, want) || !slices.Equal(codes, replies) {
		t.Errorf("DeliverMail(%q, %q) = %q, %d, %v, want %q, %d", list, m, got, codes, ok, want, replies)
	}
	if !equalBoxes(list, boxes) || !equalMails(m, mail) {
		t.Errorf("DeliverMail(%q, %q) changed its arguments to %q, %q", boxes, mail, list, m)
	}
	expectGateway(t, want, true)
}

// expectDeliveredByCounts holds a delivery against the second way, and returns
// the boxes.
func expectDeliveredByCounts(t *testing.T, list []impl.Box, m impl.Mail) []impl.Box {
	t.Helper()
	want, replies := deliverByCounts(list, m)
	expectDelivered(t, list, m, want, replies...)
	return want
}

func expectNotDelivered(t *testing.T, list []impl.Box, m impl.Mail) {
	t.Helper()
	if got, codes, ok := impl.DeliverMail(list, m); ok || len(got) != 0 || len(codes) != 0 {
		t.Errorf("DeliverMail(%s, %s) = %q, %d, %v, want none", short(list), short(m), got, codes, ok)
	}
}

func expectTaken(t *testing.T, list []impl.Box, path string, want impl.Mail, left ...impl.Box) {
	t.Helper()
	kept := copyOfBoxes(list)
	if got, m, ok := impl.TakeMail(list, path); !ok || !equalMails(m, want) || !equalBoxes(got, left) {
		t.Errorf("TakeMail(%q, %q) = %q, %q, %v, want %q, %q", list, path, got, m, ok, left, want)
	}
	if !equalBoxes(list, kept) {
		t.Errorf("TakeMail(%q, %q) changed the boxes to %q", kept, path, list)
	}
	expectGateway(t, left, true)
}

// expectTakenByPath holds what is taken against the mails by their paths, and
// returns the boxes that are left.
func expectTakenByPath(t *testing.T, list []impl.Box, path string) []impl.Box {
	t.Helper()
	mails := mailsByPath(list)
	held := mails[path]
	if len(held) == 0 {
		expectNotTaken(t, list, path)
		return list
	}
	mails[path] = held[1:]
	left := boxesOf(mails)
	expectTaken(t, list, path, held[0], left...)
	return left
}

func expectNotTaken(t *testing.T, list []impl.Box, path string) {
	t.Helper()
	if got, m, ok := impl.TakeMail(list, path); ok || len(got) != 0 || !equalMails(m, impl.Mail{}) {
		t.Errorf("TakeMail(%s, %q) = %q, %q, %v, want none", short(list), path, got, m, ok)
	}
}

// expectNothingOfMail holds a mail that is not valid against all that takes one.
func expectNothingOfMail(t *testing.T, m impl.Mail) {
	t.Helper()
	if got, ok := impl.NormalMail(m); ok || !equalMails(got, impl.Mail{}) {
		t.Errorf("NormalMail(%s) = %q, %v, want none", short(m), got, ok)
	}
	if got, ok := impl.SplitMail(m); ok || len(got) != 0 {
		t.Errorf("SplitMail(%s) = %q, %v, want none", short(m), got, ok)
	}
	if got, ok := impl.CountHops(m); ok || got != 0 {
		t.Errorf("CountHops(%s) = %d, %v, want none", short(m), got, ok)
	}
	expectNotTraced(t, m, "gate.example", hopDate)
	for _, list := range manyGateways() {
		expectNotDelivered(t, list, m)
	}
}

func TestLimitsOfGateways(t *testing.T) {
	if impl.MaxBoxes != 8 || impl.MaxHeld != 4 || impl.MaxHops != 5 {
		t.Errorf("the limits are %d, %d and %d", impl.MaxBoxes, impl.MaxHeld, impl.MaxHops)
	}
}

func TestBoxesValid(t *testing.T) {
	for _, list := range manyGateways() {
		expectGateway(t, list, true)
	}
	for _, list := range wrongGateways() {
		expectGateway(t, list, false)
	}
}

func TestNumberOfBoxes(t *testing.T) {
	for boxes := range 12 {
		for mails := range 8 {
			expectGateway(t, manyBoxes(boxes, mails), boxes <= 8 && (mails <= 4 || boxes == 0))
		}
	}
	for mails := range 8 {
		for at := range 8 {
			list := manyBoxes(8, 0)
			list[at].Mails = mailsOf("a@b", mails)
			expectGateway(t, list, mails <= 4)
		}
	}
}

// Boxes are in the order of the bytes of their whole paths.
func TestOrderOfBoxes(t *testing.T) {
	paths := []string{"!@b", "-@b", "0@b", "9@b", "A@b", "AB@b", "B@b", "a.b@b", "a@a", "a@b", "a@b-c", "a@b.c", "a@b0", "a@bb", "ab@a", "b@a", "~@b"}
	for i, a := range paths {
		for j, b := range paths {
			expectGateway(t, []impl.Box{box(a), box(b)}, i < j)
			for k, c := range paths {
				expectGateway(t, []impl.Box{box(a), box(b), box(c)}, i < j && j < k)
			}
			switch {
			case i < j:
				expectAdded(t, []impl.Box{box(a)}, b, box(a), box(b))
			case i > j:
				expectAdded(t, []impl.Box{box(a)}, b, box(b), box(a))
			default:
				expectNotAdded(t, []impl.Box{box(a)}, b)
			}
		}
	}
}

// Of eight boxes, two change their places, or have the same path.
func TestTwoOfManyBoxes(t *testing.T) {
	for number := 2; number <= 8; number++ {
		for i := range number {
			for j := range number {
				list := manyBoxes(number, 1)
				list[i], list[j] = list[j], list[i]
				expectGateway(t, list, i == j)
				list = manyBoxes(number, 1)
				list[i].Path = list[j].Path
				expectGateway(t, list, i == j)
			}
		}
	}
}

// expectBoxFor holds a path against what is wanted, wherever a box may have it.
func expectBoxFor(t *testing.T, path string, want bool) {
	t.Helper()
	if isPath(path) != want {
		t.Errorf("the second way differs for %q", path)
	}
	expectGateway(t, []impl.Box{box(path)}, want)
	low, high := "!!!!@0", "~~~~@z"
	between := want && low < path && path < high
	expectGateway(t, []impl.Box{box(low), box(path), box(high)}, between)
	expectGateway(t, []impl.Box{box(path, mailTo("a@b", "a"))}, want)
	if between {
		expectAdded(t, []impl.Box{box(low), box(high)}, path, box(low), box(path), box(high))
		expectAdded(t, nil, path, box(path))
		return
	}
	if !want {
		expectNotAdded(t, nil, path)
		expectNotAdded(t, []impl.Box{box(low), box(high)}, path)
		expectNotTaken(t, []impl.Box{box(low), box(high)}, path)
	}
}

func TestPathsOfBoxes(t *testing.T) {
	for _, path := range []string{"a@b", "Ann@x.org", "a.b@c.d", "!#$%&'*+-/=?^_`{|}~@b", "1@2", strings.Repeat("a", 30) + "@" + strings.Repeat("b", 40)} {
		expectBoxFor(t, path, true)
	}
	for _, path := range []string{"", "@", "a", "a@", "@b", "a@B", "a@x.Org", "a@b@c", " a@b", "a@b ", "a b@c", "a..b@c", "a@b.", "a@-b", "a@b-", "<a@b>", "Ann <a@b>", `"a"@b`, "a@b\n", strings.Repeat("a", 31) + "@b", "a@" + strings.Repeat("b", 41), strings.Repeat("a", 100000)} {
		expectBoxFor(t, path, false)
	}
	for c := range 256 {
		b := string([]byte{byte(c)})
		for _, path := range []string{b + "@x", "a" + b + "c@x", "a@" + b, "a@x" + b + "y", b + "a@b", "a@b" + b} {
			expectBoxFor(t, path, isPath(path))
		}
	}
}

func TestMailsOfBoxes(t *testing.T) {
	for _, m := range manyMailsToPass() {
		for number := range 6 {
			expectGateway(t, []impl.Box{box("a@b", slices.Repeat([]impl.Mail{m}, number)...)}, number <= 4)
		}
	}
	for _, m := range wrongMails() {
		for at := range 4 {
			mails := slices.Insert(mailsOf("a@b", 3), at, m)
			for place := range 3 {
				list := manyBoxes(3, 1)
				list[place].Mails = mails
				expectGateway(t, list, false)
			}
		}
	}
}

func TestBoxesSame(t *testing.T) {
	lists := append(manyGateways()[2:], wrongGateways()[:24]...)
	lists = append(lists, nil, []impl.Box{{}, {}}, []impl.Box{box("a@b", mailTo("a@b", "a"))}, []impl.Box{box("a@b", mailTo("a@b", "b"))}, []impl.Box{box("a@b", mailTo("a@c", "a"))},
		[]impl.Box{box("a@b"), box("b@c", mailTo("a@b"))}, []impl.Box{box("a@b", mailTo("a@b")), box("b@c")}, []impl.Box{box("a@b", impl.Mail{From: "a@b"})}, []impl.Box{box("a@b", mailTo("x"), mailTo("y"))}, []impl.Box{box("a@b", mailTo("y"), mailTo("x"))},
		[]impl.Box{box("a@b"), box("c@d")}, []impl.Box{box("c@d"), box("a@b")}, []impl.Box{box("A@b")}, []impl.Box{box("a@b")}, []impl.Box{box("\xff")})
	for i, a := range lists {
		for j, b := range lists {
			if got := impl.BoxesSame(a, copyOfBoxes(b)); got != (i == j) {
				t.Errorf("BoxesSame(%q, %q) = %v", a, b, got)
			}
		}
	}
	empty := []impl.Box{{Path: "a@b", Mails: []impl.Mail{}}}
	if !impl.BoxesSame([]impl.Box{}, nil) || !impl.BoxesSame(empty, []impl.Box{box("a@b")}) || !impl.BoxesSame([]impl.Box{box("a@b")}, empty) {
		t.Error("BoxesSame tells nil slices from empty ones")
	}
	if !impl.BoxesSame(make([]impl.Box, 1<<16), make([]impl.Box, 1<<16)) {
		t.Error("BoxesSame has a limit")
	}
}

func TestAddBox(t *testing.T) {
	expectAdded(t, nil, "a@b", box("a@b"))
	expectAdded(t, []impl.Box{}, "a@b", impl.Box{Path: "a@b", Mails: []impl.Mail{}})
	ann, bob := mailsOf("ann@x.org", 4), mailsOf("bob@y.org", 2)
	two := []impl.Box{box("ann@x.org", ann...), box("bob@y.org", bob...)}
	expectAdded(t, two, "Ann@x.org", box("Ann@x.org"), two[0], two[1])
	expectAdded(t, two, "ann@x.orga", two[0], box("ann@x.orga"), two[1])
	expectAdded(t, two, "cy@a.org", two[0], two[1], box("cy@a.org"))
	for _, path := range []string{"ann@x.org", "bob@y.org", "", "bob", "bob@Y.org", "ann@X.org", "<cy@a.org>", "Cy <cy@a.org>"} {
		expectNotAdded(t, two, path)
	}
	for _, list := range wrongGateways() {
		for _, path := range []string{"z@z", "a@b", "", "a"} {
			expectNotAdded(t, list, path)
		}
	}
}

// Boxes are added in each order, and are the same then.
func TestBoxesInEachOrder(t *testing.T) {
	paths := []string{"a@b", "b@a", "B@b", "a.a@b", "a@a", "a@b.a"}
	want := []string{"B@b", "a.a@b", "a@a", "a@b", "a@b.a", "b@a"}
	var add func(list []impl.Box, left []string)
	add = func(list []impl.Box, left []string) {
		for i, path := range left {
			more, ok := impl.AddBox(list, path)
			if !ok || !isGateway(more) || len(more) != len(list)+1 {
				t.Fatalf("AddBox(%q, %q) = %q, %v", list, path, more, ok)
			}
			expectNotAdded(t, more, path)
			add(more, slices.Delete(slices.Clone(left), i, i+1))
		}
		if len(left) > 0 {
			return
		}
		for i, b := range list {
			if b.Path != want[i] || len(b.Mails) != 0 {
				t.Fatalf("the boxes are %q, want %q", list, want)
			}
		}
	}
	add(nil, paths)
}

func TestLimitOfBoxes(t *testing.T) {
	for _, mails := range []int{0, 4} {
		for number := range 11 {
			list := manyBoxes(number, mails)
			for _, path := range []string{"0@x", "b.b@x.org", "z@x.org"} {
				if number >= 8 {
					expectNotAdded(t, list, path)
					continue
				}
				want := append(copyOfBoxes(list), box(path))
				sort.Slice(want, func(i int, j int) bool { return want[i].Path < want[j].Path })
				expectAdded(t, list, path, want...)
			}
			if number > 0 {
				expectNotAdded(t, list, list[number-1].Path)
				expectNotAdded(t, list, list[0].Path)
			}
		}
	}
}

func TestNormalMail(t *testing.T) {
	m := impl.Mail{From: "ann@x.org", Lines: []string{"Subject: hello", "", ".", "a"}}
	expectNormalMail(t, withTo(m, "a@b"), "a@b")
	expectNormalMail(t, withTo(m, "a@b", "a@b"), "a@b")
	expectNormalMail(t, withTo(m, "c@d", "a@b", "c@d"), "c@d", "a@b")
	expectNormalMail(t, withTo(m, "c@d", "a@b", "a@b", "c@d", "c@d", "e@f", "a@b"), "c@d", "a@b", "e@f")
	// Only domains do not depend on capital letters, and these have none.
	expectNormalMail(t, withTo(m, "a@b", "A@b", "a@b", "A@b"), "a@b", "A@b")
	expectNormalMail(t, withTo(m, "a@b", "a@b.c", "a.a@b", "a@c", "b@b"), "a@b", "a@b.c", "a.a@b", "a@c", "b@b")
	expectNormalMail(t, withTo(impl.Mail{}, "a@b", "a@b"), "a@b")
	// Who sends a mail may also get it.
	expectNormalMail(t, withTo(m, "ann@x.org", "ann@x.org", "bob@y.org"), "ann@x.org", "bob@y.org")
	for number := 1; number <= 10; number++ {
		paths := manyPaths(number)
		expectNormalMail(t, withTo(m, slices.Repeat([]string{"a@b"}, number)...), "a@b")
		expectNormalMail(t, withTo(m, paths...), paths...)
		slices.Reverse(paths)
		expectNormalMail(t, withTo(m, paths...), paths...)
		if number <= 5 {
			expectNormalMail(t, withTo(m, append(slices.Clone(paths), paths...)...), paths...)
		}
	}
	for _, m := range manyMailsToPass() {
		expectAsByPlaces(t, m)
	}
}

func TestSplitMail(t *testing.T) {
	m := impl.Mail{From: "ann@x.org", Lines: []string{"Subject: hello", "", ".", "a"}}
	expectSplitMail(t, withTo(m, "a@x.org", "b@y.org", "c@x.org"), []string{"a@x.org", "c@x.org"}, []string{"b@y.org"})
	expectSplitMail(t, withTo(m, "b@y.org", "a@x.org", "c@x.org"), []string{"b@y.org"}, []string{"a@x.org", "c@x.org"})
	expectSplitMail(t, withTo(m, "a@b"), []string{"a@b"})
	expectSplitMail(t, withTo(m, "a@b", "a@b", "a@b"), []string{"a@b"})
	expectSplitMail(t, withTo(m, "b@c", "a@c", "b@c", "A@c"), []string{"b@c", "a@c", "A@c"})
	expectSplitMail(t, withTo(m, "a@z", "a@y", "a@x", "a@y", "b@z"), []string{"a@z", "b@z"}, []string{"a@y"}, []string{"a@x"})
	// A domain is all that is behind the `@`.
	expectSplitMail(t, withTo(m, "a@b", "a@b.c", "a@a.b", "a@b-c", "a.b@b", "a@bb"), []string{"a@b", "a.b@b"}, []string{"a@b.c"}, []string{"a@a.b"}, []string{"a@b-c"}, []string{"a@bb"})
	expectSplitMail(t, withTo(impl.Mail{}, "a@b", "b@c"), []string{"a@b"}, []string{"b@c"})
	for number := 1; number <= 10; number++ {
		paths := manyPaths(number)
		expectSplitMail(t, withTo(m, paths...), paths)
		var alone [][]string
		for i := range paths {
			paths[i] = "bob@" + strings.Repeat("y", 10-i)
			alone = append(alone, []string{paths[i]})
		}
		expectSplitMail(t, withTo(m, paths...), alone...)
	}
}

// All mails to up to five of some paths, and many to up to ten of them.
func TestMailsToAllPaths(t *testing.T) {
	paths := []string{"a@x", "A@x", "b@x", "a@y", "b@x.y", "a@b"}
	m := impl.Mail{From: "a@x", Lines: []string{"Received: a", "", "."}}
	for number := 1; number <= 5; number++ {
		for i := range pow(len(paths), number) {
			var to []string
			for range number {
				to = append(to, paths[i%len(paths)])
				i /= len(paths)
			}
			expectAsByPlaces(t, withTo(m, to...))
		}
	}
	random := rand.New(rand.NewSource(11))
	for range 5000 {
		var to []string
		for range random.Intn(10) + 1 {
			to = append(to, paths[random.Intn(len(paths))])
		}
		expectAsByPlaces(t, withTo(m, to...))
	}
}

func TestCountHops(t *testing.T) {
	expectHops(t, 0)
	expectHops(t, 1, "Received: by x.org; today")
	expectHops(t, 1, "Received:")
	expectHops(t, 1, "Received:x")
	expectHops(t, 1, "Received::")
	expectHops(t, 3, "RECEIVED: a", "received: b", "rEcEiVeD:c")
	expectHops(t, 2, "Subject: hello", "Received: a", "To: bob", "Received: b")
	// A line may go on in the next one, which is no hop.
	expectHops(t, 1, "Received: by x.org;", " Received: by y.org;", "  Received:")
	for _, line := range []string{"Received", "Receive:", "eceived:", " Received:", "Received :", "Received;", "Received.", "X-Received: a", "Received-By: a", ": Received:", "a Received: b", `"Received:"`, "Recei ved:", "Receivedd:", "RReceived:", ".Received:", "Recieved:", "R", ":"} {
		expectHops(t, 0, line)
		expectHops(t, 1, line, "Received: a", line)
	}
}

// Each letter of the name may be a capital or a small one.
func TestLettersOfHops(t *testing.T) {
	for bits := range pow(2, len("received")) {
		line := []byte("received: a")
		for i := range len("received") {
			if bits>>i&1 == 1 {
				line[i] -= 'a' - 'A'
			}
		}
		expectHops(t, 1, string(line))
		expectHops(t, 2, "a", string(line), "b", string(line[:9]), "", string(line))
	}
}

// Each byte is put at each place of the name, and in place of each byte.
func TestBytesOfHops(t *testing.T) {
	line := "Received:"
	for c := range 256 {
		b := string([]byte{byte(c)})
		for at := range len(line) + 1 {
			lines := []string{line[:at] + b + line[at:]}
			if at < len(line) {
				lines = append(lines, line[:at]+b+line[at+1:])
			}
			for _, other := range lines {
				if !lineForm.MatchString(other) {
					expectNothingOfMail(t, mailTo("bob@y.org", other))
					continue
				}
				hops := 0
				if hopForm.MatchString(other) {
					hops = 1
				}
				expectHops(t, hops, other)
			}
		}
	}
}

// What is behind the first empty line is the business of who sends a mail.
func TestHopsBehindAnEmptyLine(t *testing.T) {
	expectHops(t, 0, "", "Received: a")
	expectHops(t, 1, "Received: a", "", "Received: b")
	expectHops(t, 2, "Received: a", "Received: b", "", "Received: c", "", "Received: d")
	expectHops(t, 0, "", "", "Received: a")
	expectHops(t, 0, "Subject: a", "", "Received: a", "Received: b", "Received: c", "Received: d", "Received: e", "Received: f")
	// A line of spaces, or a point, is not empty.
	expectHops(t, 2, "Received: a", " ", "Received: b")
	expectHops(t, 2, "Received: a", ".", "Received: b", "", "Received: c")
	for hops := range 31 {
		lines := slices.Repeat([]string{"received:"}, hops)
		expectHops(t, hops, lines...)
		for behind := range 30 - hops {
			expectHops(t, hops, append(append(slices.Clone(lines), ""), slices.Repeat([]string{"Received: a"}, behind)...)...)
		}
	}
}

// All mails of up to six of some lines.
func TestHopsOfLines(t *testing.T) {
	pieces := []string{"Received: a", "RECEIVED:", "", "Received", " "}
	for number := range 7 {
		for i := range pow(len(pieces), number) {
			var lines []string
			for range number {
				lines = append(lines, pieces[i%len(pieces)])
				i /= len(pieces)
			}
			expectHops(t, hopsByForm(impl.Mail{Lines: lines}), lines...)
		}
	}
}

func TestTraceMail(t *testing.T) {
	m := impl.Mail{From: "ann@x.org", To: []string{"bob@y.org", "cy@z", "bob@y.org"}, Lines: []string{"Subject: hello", "", "a"}}
	want := copyOfMail(m)
	want.Lines = []string{"Received: by gate.example; " + hopText, "Subject: hello", "", "a"}
	if got, ok := impl.TraceMail(m, "gate.example", hopDate); !ok || !equalMails(got, want) {
		t.Errorf("TraceMail(%q) = %q, %v, want %q", m, got, ok, want)
	}
	want = impl.Mail{To: []string{"a@b"}, Lines: []string{"Received: by x; Thu, 1 Jan 1970 00:00:00 +0000"}}
	if got, ok := impl.TraceMail(impl.Mail{To: []string{"a@b"}}, "x", date(1970, 1, 1, 0, 0, 0, 0)); !ok || !equalMails(got, want) {
		t.Errorf("TraceMail = %q, %v, want %q", got, ok, want)
	}
	for _, m := range append(manyMailsToPass(), wrongMails()...) {
		for _, host := range []string{"gate.example", "", "X"} {
			for _, d := range []impl.Date{hopDate, {}} {
				expectTracedByTime(t, m, host, d)
			}
		}
	}
}

func TestHostsOfHops(t *testing.T) {
	m := mailTo("bob@y.org", "a")
	for _, host := range []string{"x", "x.org", "1", "1.2.3", "a-b.c--d", strings.Repeat("a", 39), strings.Repeat("a", 40), strings.Repeat("a.", 19) + "bc"} {
		if _, ok := expectTracedByTime(t, m, host, hopDate); !ok {
			t.Errorf("the second way does not trace by %q", host)
		}
	}
	for _, host := range []string{"", ".", "X", "x.Org", "x.", ".x", "x..y", "-", "-x", "x-", "x.-y", "a@b", "x y", " x", "x ", "x_y", "é", "x\n", "x;", strings.Repeat("a", 41), strings.Repeat("a.", 20) + "b", strings.Repeat("a", 100000)} {
		expectNotTraced(t, m, host, hopDate)
	}
	for c := range 256 {
		b := string([]byte{byte(c)})
		for _, host := range []string{b, b + "x", "x" + b, "x" + b + "y"} {
			expectTracedByTime(t, m, host, hopDate)
		}
	}
}

func TestDatesOfHops(t *testing.T) {
	m := mailTo("bob@y.org", "a")
	for _, d := range []impl.Date{
		date(1970, 1, 1, 0, 0, 0, 0), date(2099, 12, 31, 23, 59, 59, 0), date(2024, 2, 29, 12, 0, 0, -720), date(2026, 11, 20, 1, 2, 3, 840), date(2000, 2, 29, 0, 0, 0, -1),
	} {
		if _, ok := expectTracedByTime(t, m, "x", d); !ok {
			t.Errorf("the second way does not trace at %v", d)
		}
	}
	for _, d := range []impl.Date{
		{}, date(1969, 12, 31, 23, 59, 59, 0), date(2100, 1, 1, 0, 0, 0, 0), date(2025, 2, 29, 0, 0, 0, 0), date(2026, 13, 1, 0, 0, 0, 0), date(2026, 0, 1, 0, 0, 0, 0), date(2026, 1, 0, 0, 0, 0, 0), date(2026, 1, 32, 0, 0, 0, 0),
		date(2026, 1, 1, 24, 0, 0, 0), date(2026, 1, 1, 0, 60, 0, 0), date(2026, 1, 1, 0, 0, 60, 0), date(2026, 1, 1, -1, 0, 0, 0), date(2026, 1, 1, 0, 0, 0, 841), date(2026, 1, 1, 0, 0, 0, -721), date(1970, 1, 1, 0, 0, 0, 1),
	} {
		expectNotTraced(t, m, "x", d)
	}
	for seconds := 0; seconds < 4102444800; seconds += 12345677 {
		expectTracedByTime(t, m, "x", dateOf(seconds, seconds%1561-720))
	}
}

func TestLimitOfTracedLines(t *testing.T) {
	for number := range 33 {
		for _, line := range []string{"", "a", strings.Repeat("~", 200)} {
			m := mailTo("bob@y.org", slices.Repeat([]string{line}, number)...)
			if _, ok := expectTracedByTime(t, m, "gate.example", hopDate); ok != (number < 30) {
				t.Errorf("the second way traces %d lines: %v", number, ok)
			}
		}
	}
}

func TestLimitOfHops(t *testing.T) {
	for hops := range 10 {
		for _, behind := range [][]string{nil, {""}, {"a", "", "Received: a"}, slices.Repeat([]string{"a"}, 20)} {
			for _, before := range [][]string{nil, {"a"}, {"Received", "b"}} {
				lines := append(slices.Clone(before), slices.Repeat([]string{"received: x"}, hops)...)
				m := mailTo("bob@y.org", append(lines, behind...)...)
				if _, ok := expectTracedByTime(t, m, "gate.example", hopDate); ok != (hops < 5) {
					t.Errorf("the second way traces %d hops: %v", hops, ok)
				}
			}
		}
	}
	m := mailTo("bob@y.org", slices.Repeat([]string{"Received: x"}, 4)...)
	expectNotTraced(t, m, "X", hopDate)
	expectNotTraced(t, m, "x", impl.Date{})
	m.Lines = append(m.Lines, "", "Received: x")
	if _, ok := expectTracedByTime(t, m, "x", hopDate); !ok {
		t.Error("what is behind an empty line is taken for a hop")
	}
}

// A mail that goes round between gateways is stopped, whatever it had before,
// and has one hop more with each gateway until then.
func TestCirclesEnd(t *testing.T) {
	hosts := []string{"a.org", "b.org", "c.org"}
	for before := range 6 {
		for _, lines := range [][]string{nil, {""}, {"Subject: a", "", "Received: b"}, {"Subject: a", "a"}} {
			m := mailTo("bob@y.org", append(slices.Repeat([]string{"RECEIVED: x"}, before), lines...)...)
			traces := 0
			for ; traces <= 5; traces++ {
				if hops, ok := impl.CountHops(m); !ok || hops != before+traces {
					t.Errorf("CountHops(%q) = %d, %v, want %d", m, hops, ok, before+traces)
				}
				traced, ok := impl.TraceMail(m, hosts[traces%3], hopDate)
				if !ok {
					break
				}
				if traced.Lines[0] != "Received: by "+hosts[traces%3]+"; "+hopText || !slices.Equal(traced.Lines[1:], m.Lines) {
					t.Errorf("TraceMail(%q) = %q", m, traced)
				}
				m = traced
			}
			if traces != 5-before {
				t.Errorf("a mail with %d hops is passed on %d times", before, traces)
			}
		}
	}
}

func TestDeliverMail(t *testing.T) {
	m := mailTo("bob@y.org", "Subject: hello", "", ".")
	none := []impl.Box{box("bob@y.org")}
	one := []impl.Box{box("bob@y.org", m)}
	expectDelivered(t, none, m, one, 250)
	expectDelivered(t, one, m, []impl.Box{box("bob@y.org", m, m)}, 250)
	expectDelivered(t, nil, m, nil, 550)
	expectDelivered(t, []impl.Box{}, withTo(m, "a@b", "a@b"), nil, 550, 550)
	// Whose box it is, is told by the path with its letters.
	expectDelivered(t, none, withTo(m, "Bob@y.org", "bob@y", "bob@y.org.z", "ob@y.org"), none, 550, 550, 550, 550)
	others := mailsOf("x@y", 3)
	list := []impl.Box{box("ann@x.org", others[1], others[0]), box("bob@y.org"), box("cy@z", others[2])}
	want := []impl.Box{box("ann@x.org", others[1], others[0], withTo(m, "ann@x.org")), box("bob@y.org"), box("cy@z", others[2], withTo(m, "cy@z"))}
	expectDelivered(t, list, withTo(m, "cy@z", "eve@x.org", "ann@x.org"), want, 250, 550, 250)
	// Who sends a mail may have a box, which does not matter.
	expectDelivered(t, []impl.Box{box("ann@x.org"), box("bob@y.org")}, m, []impl.Box{box("ann@x.org"), box("bob@y.org", m)}, 250)
	nobody := impl.Mail{To: []string{"bob@y.org"}}
	expectDelivered(t, none, nobody, []impl.Box{box("bob@y.org", nobody)}, 250)
}

func TestFullBoxes(t *testing.T) {
	m := mailTo("b@x.org", "new")
	for held := range 5 {
		list := []impl.Box{box("a@x.org"), box("b@x.org", mailsOf("b@x.org", held)...), box("c@x.org", mailsOf("c@x.org", 4)...)}
		want, reply := copyOfBoxes(list), 452
		if held < 4 {
			want[1].Mails = append(want[1].Mails, m)
			reply = 250
		}
		expectDelivered(t, list, m, want, reply)
		// A full box stops no other one.
		want[0].Mails = []impl.Mail{withTo(m, "a@x.org")}
		expectDelivered(t, list, withTo(m, "c@x.org", "b@x.org", "d@x.org", "a@x.org"), want, 452, reply, 550, 250)
	}
	for boxes := 1; boxes <= 8; boxes++ {
		list := manyBoxes(boxes, 4)
		var to []string
		for _, b := range list {
			to = append(to, b.Path)
		}
		expectDelivered(t, list, withTo(m, to...), list, slices.Repeat([]int{452}, boxes)...)
		want := copyOfBoxes(list)
		for i, b := range list {
			list[i].Mails = b.Mails[:3]
			want[i].Mails[3] = withTo(m, b.Path)
		}
		expectDelivered(t, list, withTo(m, to...), want, slices.Repeat([]int{250}, boxes)...)
		slices.Reverse(to)
		expectDelivered(t, list, withTo(m, to...), want, slices.Repeat([]int{250}, boxes)...)
	}
}

// DeliverMail does what To says: who is there twice gets a mail twice, unless
// it is brought into normal form before.
func TestTheSameOneTwice(t *testing.T) {
	list := []impl.Box{box("a@b"), box("c@d")}
	m := impl.Mail{From: "x@y", To: []string{"a@b", "c@d", "a@b"}, Lines: []string{"a"}}
	forA, forC := withTo(m, "a@b"), withTo(m, "c@d")
	expectDelivered(t, list, m, []impl.Box{box("a@b", forA, forA), box("c@d", forC)}, 250, 250, 250)
	m.To = slices.Repeat([]string{"a@b"}, 10)
	expectDelivered(t, list, m, []impl.Box{box("a@b", forA, forA, forA, forA), box("c@d")}, 250, 250, 250, 250, 452, 452, 452, 452, 452, 452)
	for times := 1; times <= 5; times++ {
		m.To = slices.Repeat([]string{"a@b", "c@d"}, times)
		normal, ok := impl.NormalMail(m)
		if !ok {
			t.Errorf("NormalMail(%q) = %q, %v", m, normal, ok)
		}
		expectDelivered(t, list, normal, []impl.Box{box("a@b", forA), box("c@d", forC)}, 250, 250)
	}
}

// In normal form, and split or not, each one gets a mail once.
func TestEachOneGetsAMailOnce(t *testing.T) {
	random := rand.New(rand.NewSource(1111))
	paths := []string{"a@x", "A@x", "b@x", "a@y", "b@y", "a@x.y", "c@x", "z@z"}
	for range 3000 {
		m := impl.Mail{From: "a@x", Lines: []string{"Subject: a", "", "a"}}
		for range random.Intn(10) + 1 {
			m.To = append(m.To, paths[random.Intn(len(paths))])
		}
		var list []impl.Box
		for _, path := range paths[:7] {
			list, _ = impl.AddBox(list, path)
		}
		normal, _ := impl.NormalMail(m)
		together, _, ok := impl.DeliverMail(list, normal)
		split, _ := impl.SplitMail(m)
		alone, domains := list, map[string]bool{}
		for _, one := range split {
			alone, _, _ = impl.DeliverMail(alone, one)
			domains[one.To[0][strings.Index(one.To[0], "@"):]] = true
		}
		if !ok || !impl.BoxesSame(together, alone) || len(domains) != len(split) {
			t.Errorf("%q is delivered as %q and as %q", m, together, alone)
		}
		for _, b := range together {
			want := []impl.Mail{withTo(m, b.Path)}
			if !slices.Contains(m.To, b.Path) {
				want = nil
			}
			if !slices.EqualFunc(b.Mails, want, equalMails) {
				t.Errorf("%q has %q of %q", b.Path, b.Mails, m)
			}
		}
	}
}

func TestNotDelivered(t *testing.T) {
	for _, m := range wrongMails() {
		expectNothingOfMail(t, m)
	}
	for _, list := range wrongGateways() {
		for _, m := range append(manyMailsToPass(), impl.Mail{}) {
			expectNotDelivered(t, list, m)
		}
	}
	for _, list := range manyGateways() {
		for _, m := range manyMailsToPass() {
			expectDeliveredByCounts(t, list, m)
		}
	}
}

// All mails to up to four of some paths, into boxes of all fillings.
func TestDeliveriesToAllPaths(t *testing.T) {
	paths := []string{"a@x", "b@x", "c@x"}
	for first := range 5 {
		for second := range 5 {
			list := []impl.Box{box("a@x", mailsOf("a@x", first)...), box("b@x", mailsOf("b@x", second)...)}
			for number := 1; number <= 4; number++ {
				for i := range pow(len(paths), number) {
					var to []string
					for range number {
						to = append(to, paths[i%len(paths)])
						i /= len(paths)
					}
					expectDeliveredByCounts(t, list, impl.Mail{To: to, Lines: []string{"new"}})
				}
			}
		}
	}
}

func TestTakeMail(t *testing.T) {
	mails := mailsOf("x@y", 4)
	mails[0].To = []string{"p@q", "r@s"}
	list := []impl.Box{box("a@b", mails...), box("b@b"), box("c@d", mails[3])}
	// The first mail to come is the first to go.
	for i, m := range mails {
		left := []impl.Box{box("a@b", mails[i+1:]...), box("b@b"), box("c@d", mails[3])}
		expectTaken(t, list, "a@b", m, left...)
		list = left
	}
	expectNotTaken(t, list, "a@b")
	expectNotTaken(t, list, "b@b")
	expectTaken(t, list, "c@d", mails[3], box("a@b"), box("b@b"), box("c@d"))
	for _, path := range []string{"", "c", "C@d", "c@D", "c@d.e", "<c@d>", "c@d ", "d@d", "\x00", "c@", strings.Repeat("c", 1000)} {
		expectNotTaken(t, list, path)
	}
	for _, list := range manyGateways() {
		for _, path := range []string{"a@b", "bob@y.org", "a@x.org", "c@x.org", "h@x.org", "B@b", "", "z@z"} {
			expectTakenByPath(t, list, path)
		}
	}
	for _, list := range wrongGateways() {
		for _, path := range []string{"a@b", "a@c", "b@c", "a@x.org", "a", ""} {
			expectNotTaken(t, list, path)
		}
	}
}

// A box from which a mail was taken takes another one.
func TestRoomInABox(t *testing.T) {
	m := mailTo("a@b", "new")
	mails := mailsOf("a@b", 4)
	full := []impl.Box{box("a@b", mails...)}
	expectDelivered(t, full, m, full, 452)
	room := []impl.Box{box("a@b", mails[1:]...)}
	expectTaken(t, full, "a@b", mails[0], room...)
	expectDelivered(t, room, m, []impl.Box{box("a@b", mails[1], mails[2], mails[3], m)}, 250)
	expectDelivered(t, room, withTo(m, "a@b", "a@b"), []impl.Box{box("a@b", mails[1], mails[2], mails[3], m)}, 250, 452)
}

func TestCountHeld(t *testing.T) {
	for _, c := range []struct {
		list []impl.Box
		want int
	}{
		{nil, 0}, {manyBoxes(1, 0), 0}, {manyBoxes(1, 1), 1}, {manyBoxes(2, 3), 6}, {manyBoxes(8, 4), 32}, {manyBoxes(7, 4), 28}, {manyBoxes(8, 0), 0},
		{[]impl.Box{box("a@b", mailsOf("a@b", 1)...), box("b@b"), box("c@b", mailsOf("c@b", 4)...)}, 5},
		// A mail to many is one mail.
		{[]impl.Box{box("a@b", impl.Mail{To: manyPaths(10)})}, 1},
		{manyBoxes(8, 5), 0}, {manyBoxes(9, 1), 0}, {[]impl.Box{box("b@b", mailTo("a@b")), box("a@b", mailTo("a@b"))}, 0}, {[]impl.Box{box("a@b", mailTo("a@b"), impl.Mail{})}, 0},
	} {
		if got := impl.CountHeld(c.list); got != c.want {
			t.Errorf("CountHeld(%q) = %d, want %d", c.list, got, c.want)
		}
	}
}

// A gateway gets boxes and mails, and gives mails out, for a long time.
func TestLongWorkOfAGateway(t *testing.T) {
	random := rand.New(rand.NewSource(111))
	paths := []string{"ann@x.org", "Ann@x.org", "bob@y.org", "cy@z", "a@b", "a.b@b", "a@b.c", "~@b", "di@x.org", "eve@y.org", "Bob@y.org", "no path", "a@B"}
	path := func() string { return paths[random.Intn(len(paths))] }
	for range 200 {
		var list []impl.Box
		for range 150 {
			switch random.Intn(12) {
			case 0:
				list = addByPath(t, list, path())
			case 1, 2, 3, 4, 5, 6:
				list = expectTakenByPath(t, list, path())
			default:
				m := impl.Mail{To: []string{path()}, Lines: []string{"Subject: a"}}
				for range random.Intn(10) {
					m.To = append(m.To, path())
				}
				if !isMail(m, 1, 30) {
					expectNothingOfMail(t, m)
					continue
				}
				list = expectDeliveredByCounts(t, list, m)
			}
		}
	}
}

// addByPath adds a box, if it can be added, as the second way has it.
func addByPath(t *testing.T, list []impl.Box, path string) []impl.Box {
	t.Helper()
	mails := mailsByPath(list)
	if _, there := mails[path]; there || !isPath(path) || len(list) == 8 {
		expectNotAdded(t, list, path)
		return list
	}
	mails[path] = nil
	more := boxesOf(mails)
	expectAdded(t, list, path, more...)
	return more
}

// A mail is spoken to a session, passed on to the next one, and so on, until it
// goes round no longer.
func TestMailsThatGoRound(t *testing.T) {
	m := impl.Mail{From: "ann@x.org", To: []string{"bob@y.org", "cy@x.org", "bob@y.org"}, Lines: []string{"Subject: a", "", ".", "Received: x"}}
	for hops := range 7 {
		lines, _ := impl.SpeakMail(m)
		s, _, ok := impl.SayAll(readySession(0), lines)
		if !ok || len(s.Done) != 1 {
			t.Fatalf("%q is not handed over: %+v", m, s)
		}
		traced, ok := impl.TraceMail(s.Done[0], "gate.example", hopDate)
		if ok != (hops < 5) {
			t.Fatalf("TraceMail(%q) = %q, %v", s.Done[0], traced, ok)
		}
		if ok {
			m = traced
		}
	}
	normal, _ := impl.NormalMail(m)
	want := []impl.Box{box("bob@y.org", withTo(m, "bob@y.org")), box("cy@x.org", withTo(m, "cy@x.org"))}
	expectDelivered(t, []impl.Box{box("bob@y.org"), box("cy@x.org")}, normal, want, 250, 250)
}

// overwriteBoxes writes into all memory that boxes can reach.
func overwriteBoxes(list []impl.Box) {
	all := list[:cap(list)]
	for i, b := range all {
		overwriteMails(b.Mails)
		all[i] = box("overwritten")
	}
}

func overwriteMails(mails []impl.Mail) {
	all := mails[:cap(mails)]
	for i, m := range all {
		overwriteMail(m)
		all[i] = mailTo("overwritten")
	}
}

// mailsWithRoom returns mails whose slices have unused capacity, and a function
// that reports whether this is as it was.
func mailsWithRoom(mails []impl.Mail) ([]impl.Mail, func() bool) {
	s, untouched := withRoom(impl.Session{Done: mails})
	return s.Done, untouched
}

// boxesWithRoom does this for boxes.
func boxesWithRoom(list []impl.Box) ([]impl.Box, func() bool) {
	wide := append(copyOfBoxes(list), box("room"), box("room"))
	var checks []func() bool
	for i := range list {
		mails, untouched := mailsWithRoom(list[i].Mails)
		wide[i].Mails = mails
		checks = append(checks, untouched)
	}
	return wide[:len(list)], func() bool {
		for _, untouched := range checks {
			if !untouched() {
				return false
			}
		}
		return equalBoxes(wide[len(list):], []impl.Box{box("room"), box("room")})
	}
}

// expectApart overwrites one mail after the other; the ones behind it, and the
// Lines of it, stay as they are.
func expectApart(t *testing.T, mails []impl.Mail) {
	t.Helper()
	expectNoMemoryWithin(t, impl.Session{Done: mails})
}

// expectBoxesApart overwrites one box after the other.
func expectBoxesApart(t *testing.T, list []impl.Box) {
	t.Helper()
	kept := copyOfBoxes(list)
	for i := range list {
		if !equalBoxes(list[i:], kept[i:]) {
			t.Errorf("the boxes of %q share memory", kept)
		}
		expectApart(t, list[i].Mails)
		overwriteMails(list[i].Mails)
	}
}

func TestBoxesShareNoMemory(t *testing.T) {
	for _, list := range manyGateways() {
		given, untouched := boxesWithRoom(list)
		one, _ := impl.AddBox(given, "m@x.org")
		two, ok := impl.AddBox(given, "m@x.org")
		kept := copyOfBoxes(two)
		overwriteBoxes(one)
		if !equalBoxes(given, list) || !equalBoxes(two, kept) || !untouched() {
			t.Errorf("AddBox(%q) shares memory: %q, %q", list, given, two)
		}
		overwriteBoxes(given)
		if !equalBoxes(two, kept) || ok != (len(list) < 8) {
			t.Errorf("AddBox(%q) shares memory with its argument: %q", list, two)
		}
		expectBoxesApart(t, two)
	}
}

func TestDeliveriesShareNoMemory(t *testing.T) {
	for _, list := range manyGateways() {
		for _, m := range manyMailsToPass() {
			given, untouched := boxesWithRoom(list)
			mails, unchanged := mailsWithRoom([]impl.Mail{m})
			one, codes, _ := impl.DeliverMail(given, mails[0])
			two, others, _ := impl.DeliverMail(given, mails[0])
			want, replies := deliverByCounts(list, m)
			overwriteBoxes(one)
			for i := range codes[:cap(codes)] {
				codes[:cap(codes)][i] = 1
			}
			if !equalBoxes(given, list) || !equalMails(mails[0], m) || !untouched() || !unchanged() {
				t.Errorf("DeliverMail(%q, %q) shares memory: %q, %q", list, m, given, mails[0])
			}
			overwriteBoxes(given)
			overwriteMails(mails)
			if !equalBoxes(two, want) || !slices.Equal(others, replies) {
				t.Errorf("DeliverMail(%q, %q) shares memory: %q, %d", list, m, two, others)
			}
			expectBoxesApart(t, two)
		}
	}
}

func TestTakenMailsShareNoMemory(t *testing.T) {
	for _, list := range manyGateways() {
		for _, b := range list {
			if len(b.Mails) == 0 {
				continue
			}
			given, untouched := boxesWithRoom(list)
			one, first, _ := impl.TakeMail(given, b.Path)
			two, second, _ := impl.TakeMail(given, b.Path)
			kept := copyOfBoxes(two)
			overwriteMail(first)
			if !equalBoxes(one, kept) || !equalMails(second, b.Mails[0]) {
				t.Errorf("TakeMail(%q, %q) shares memory: %q, %q", list, b.Path, one, second)
			}
			overwriteBoxes(one)
			if !equalBoxes(given, list) || !equalBoxes(two, kept) || !untouched() {
				t.Errorf("TakeMail(%q, %q) shares memory: %q, %q", list, b.Path, given, two)
			}
			overwriteBoxes(given)
			overwriteBoxes(copyOfBoxes(two))
			if !equalBoxes(two, kept) || !equalMails(second, b.Mails[0]) {
				t.Errorf("TakeMail(%q, %q) shares memory with its argument: %q, %q", list, b.Path, two, second)
			}
			expectApart(t, []impl.Mail{second})
			expectBoxesApart(t, two)
			third, taken, _ := impl.TakeMail(list, b.Path)
			overwriteBoxes(third)
			if !equalMails(taken, b.Mails[0]) {
				t.Errorf("the results of TakeMail(%q, %q) share memory: %q", list, b.Path, taken)
			}
		}
	}
}

func TestMailsShareNoMemory(t *testing.T) {
	functions := []func(impl.Mail) []impl.Mail{
		func(m impl.Mail) []impl.Mail { n, _ := impl.NormalMail(m); return []impl.Mail{n} },
		func(m impl.Mail) []impl.Mail { n, _ := impl.TraceMail(m, "x", hopDate); return []impl.Mail{n} },
		func(m impl.Mail) []impl.Mail { list, _ := impl.SplitMail(m); return list },
	}
	for i, function := range functions {
		for _, m := range manyMailsToPass() {
			given, untouched := mailsWithRoom([]impl.Mail{m})
			one, two := function(given[0]), function(given[0])
			want := slices.Clone(two)
			for j := range want {
				want[j] = copyOfMail(want[j])
			}
			overwriteMails(one)
			if !equalMails(given[0], m) || !slices.EqualFunc(two, want, equalMails) || !untouched() {
				t.Errorf("function %d shares memory for %q: %q, %q", i, m, given, two)
			}
			overwriteMails(given)
			if !slices.EqualFunc(two, want, equalMails) {
				t.Errorf("function %d shares memory with its argument %q: %q", i, m, two)
			}
			expectApart(t, two)
		}
	}
}

func TestGatewaysLeaveArguments(t *testing.T) {
	for _, list := range append(manyGateways(), wrongGateways()[:24]...) {
		given, untouched := boxesWithRoom(list)
		impl.BoxesValid(given)
		impl.BoxesSame(given, given)
		impl.CountHeld(given)
		impl.AddBox(given, "a")
		impl.AddBox(given, "a@b")
		impl.TakeMail(given, "a")
		impl.DeliverMail(given, impl.Mail{})
		if !equalBoxes(given, list) || !untouched() {
			t.Errorf("%q became %q", list, given)
		}
	}
	for _, m := range append(manyMailsToPass(), wrongMails()...) {
		given, untouched := mailsWithRoom([]impl.Mail{m})
		impl.CountHops(given[0])
		impl.NormalMail(given[0])
		impl.SplitMail(given[0])
		impl.TraceMail(given[0], "X", hopDate)
		impl.TraceMail(given[0], "x", impl.Date{})
		impl.DeliverMail(manyBoxes(9, 0), given[0])
		if !equalMails(given[0], m) || !untouched() {
			t.Errorf("%s became %s", short(m), short(given[0]))
		}
	}
}
