package tests

import (
	"math/rand"
	"regexp"
	"slices"
	"strings"
	"testing"

	"loop.example/mailwire/impl"
)

// sentForm holds what is before a first line that has only a point, and what
// is behind it, and endForm all that may be meant as an end of a line.
var (
	sentForm = regexp.MustCompile(`(?s)\A((?:\.?[ -~]{0,200}\r\n)*?)\.\r\n(.*)\z`)
	endForm  = regexp.MustCompile(`\r\n|\r|\n`)
)

// onWire returns lines, each with its end.
func onWire(lines ...string) string {
	return strings.Join(append(slices.Clone(lines), ""), "\r\n")
}

// sentByEnds returns what is sent for lines, with points behind the ends that
// are before points.
func sentByEnds(lines []string) string {
	all := strings.ReplaceAll("\r\n"+onWire(lines...), "\r\n.", "\r\n..")
	return strings.TrimPrefix(all, "\r\n") + ".\r\n"
}

// stuffByEnds sends lines as StuffLines does.
func stuffByEnds(lines []string) (string, bool) {
	for _, line := range lines {
		if !lineForm.MatchString(line) {
			return "", false
		}
	}
	if sent := sentByEnds(lines); len(sent) <= 2000 {
		return sent, true
	}
	return "", false
}

// unstuffByForm reads what was sent as UnstuffText does, by a pattern.
func unstuffByForm(s string) ([]string, string, bool) {
	m := sentForm.FindStringSubmatch(s)
	if m == nil || len(s) > 2000 {
		return nil, "", false
	}
	lines := strings.SplitAfter(m[1], "\r\n")
	lines = lines[:len(lines)-1]
	for i, line := range lines {
		if line[0] == '.' {
			line = line[1:]
		}
		lines[i] = line[:len(line)-2]
	}
	return lines, m[2], true
}

// expectSent holds what is sent for lines against what is wanted, and reads it
// back.
func expectSent(t *testing.T, want string, lines ...string) {
	t.Helper()
	if got, ok := impl.StuffLines(lines); !ok || got != want {
		t.Errorf("StuffLines(%q) = %q, %v, want %q", lines, got, ok, want)
	}
	expectUnstuffed(t, want, "", lines...)
}

func expectNotSent(t *testing.T, lines ...string) {
	t.Helper()
	if got, ok := impl.StuffLines(lines); ok || got != "" {
		t.Errorf("StuffLines(%q) = %q, %v, want none", lines, got, ok)
	}
}

func expectUnstuffed(t *testing.T, s string, rest string, lines ...string) {
	t.Helper()
	if got, left, ok := impl.UnstuffText(s); !ok || left != rest || !slices.Equal(got, lines) {
		t.Errorf("UnstuffText(%q) = %q, %q, %v, want %q, %q", s, got, left, ok, lines, rest)
	}
}

func expectNotUnstuffed(t *testing.T, s string) {
	t.Helper()
	if got, left, ok := impl.UnstuffText(s); ok || left != "" || len(got) != 0 {
		t.Errorf("UnstuffText(%q) = %q, %q, %v, want none", s, got, left, ok)
	}
}

// expectSentByEnds holds what is sent for lines against the second writer, and
// reports whether it is sent. What is behind it is read as what is left.
func expectSentByEnds(t *testing.T, lines ...string) bool {
	t.Helper()
	want, ok := stuffByEnds(lines)
	if !ok {
		expectNotSent(t, lines...)
		return false
	}
	expectSent(t, want, lines...)
	for _, rest := range []string{"QUIT\r\n", ".\r\n", "\x00", "\r\n", "\n", want} {
		if len(want)+len(rest) <= 2000 {
			expectUnstuffed(t, want+rest, rest, lines...)
		}
	}
	expectNotUnstuffed(t, strings.TrimSuffix(want, "\n"))
	expectNotUnstuffed(t, strings.TrimSuffix(want, ".\r\n"))
	return true
}

// expectUnstuffedByForm holds what is read against the second reader, and
// reports whether it is read.
func expectUnstuffedByForm(t *testing.T, s string) bool {
	t.Helper()
	lines, rest, ok := unstuffByForm(s)
	if !ok {
		expectNotUnstuffed(t, s)
		return false
	}
	expectUnstuffed(t, s, rest, lines...)
	return true
}

// expectSplitWire holds the parts of a text against what is wanted, and joins
// them again.
func expectSplitWire(t *testing.T, s string, rest string, parts ...string) {
	t.Helper()
	got, left := impl.SplitWire(s)
	if left != rest || !slices.Equal(got, parts) {
		t.Errorf("SplitWire(%q) = %q, %q, want %q, %q", s, got, left, parts, rest)
	}
	if joined := onWire(got...) + left; joined != s {
		t.Errorf("SplitWire(%q) has the parts of %q", s, joined)
	}
}

// expectNormal holds the normal text against what is wanted, which is normal
// itself.
func expectNormal(t *testing.T, s string, want string, bare int) {
	t.Helper()
	if got := impl.NormalText(s); got != want {
		t.Errorf("NormalText(%q) = %q, want %q", s, got, want)
	}
	if got := impl.CountBare(s); got != bare {
		t.Errorf("CountBare(%q) = %d, want %d", s, got, bare)
	}
	if got := impl.NormalText(want); got != want {
		t.Errorf("NormalText(%q) = %q, want the same", want, got)
	}
	if got := impl.CountBare(want); got != 0 {
		t.Errorf("CountBare(%q) = %d, want 0", want, got)
	}
}

// expectEndsByForm holds the ends of a text against those that a pattern finds.
func expectEndsByForm(t *testing.T, s string) {
	t.Helper()
	ends := endForm.FindAllString(s, -1)
	bare := len(slices.DeleteFunc(ends, func(end string) bool { return end == "\r\n" }))
	expectNormal(t, s, endForm.ReplaceAllString(s, "\r\n"), bare)
	parts := strings.Split(s, "\r\n")
	last := len(parts) - 1
	expectSplitWire(t, s, parts[last], parts[:last]...)
}

func TestLimitOfLines(t *testing.T) {
	if impl.MaxWire != 2000 {
		t.Errorf("MaxWire = %d", impl.MaxWire)
	}
}

func TestStuffLines(t *testing.T) {
	expectSent(t, "a\r\n..b\r\n.\r\n", "a", ".b")
	expectSent(t, "a\r\n..b\r\n\r\n..\r\n.\r\n", "a", ".b", "", ".")
	expectSent(t, "..\r\n.\r\n", ".")
	expectSent(t, "..\r\n..\r\n.\r\n", ".", ".")
	expectSent(t, "...\r\n.\r\n", "..")
	expectSent(t, "....a.\r\n.\r\n", "...a.")
	expectSent(t, "a.\r\n.\r\n", "a.")
	expectSent(t, " .\r\n.\r\n", " .")
	expectSent(t, ".. \r\n.\r\n", ". ")
	expectSent(t, "a.b\r\n..\r\nc..d\r\n.\r\n", "a.b", ".", "c..d")
	expectSent(t, "QUIT\r\n.\r\n", "QUIT")
	expectSent(t, "--b0--\r\n.\r\n", "--b0--")
}

func TestStuffNoLines(t *testing.T) {
	expectSent(t, ".\r\n")
	expectSent(t, "\r\n.\r\n", "")
	expectSent(t, "\r\n\r\n\r\n.\r\n", "", "", "")
	for _, lines := range [][]string{nil, {}} {
		if got, ok := impl.StuffLines(lines); !ok || got != ".\r\n" {
			t.Errorf("StuffLines(%q) = %q, %v", lines, got, ok)
		}
	}
}

func TestStuffLinesThatAreNoTexts(t *testing.T) {
	for _, line := range []string{"\r", "\n", "\r\n", "a\r", "a\n", "a\r\n", "\ra", ".\r\n", ".\r", "a\r\n.\r\nb", "\t", "\x00", "\x7f", "\x80", "é"} {
		expectNotSent(t, line)
		expectNotSent(t, "a", line)
		expectNotSent(t, line, ".")
		expectNotSent(t, "a", line, "", "b")
	}
}

func TestBytesOfLines(t *testing.T) {
	for c := range 256 {
		b := string([]byte{byte(c)})
		for _, line := range []string{b, b + b, "a" + b, b + "a", "a" + b + "a", "." + b, b + ".", ".." + b} {
			sent := expectSentByEnds(t, "x", line, "y")
			if want := c >= 32 && c <= 126; sent != want {
				t.Errorf("a line %q is sent: %v", line, sent)
			}
			expectUnstuffedByForm(t, line+"\r\n.\r\n")
			expectUnstuffedByForm(t, "x\r\n"+line+"\r\n.\r\n"+line)
			expectUnstuffedByForm(t, line+".\r\n")
			expectUnstuffedByForm(t, ".\r\n"+line)
			expectEndsByForm(t, line)
			expectEndsByForm(t, "\r\n"+line+"\r\n")
		}
	}
}

// What is sent begins with two points where a line begins with one, and the
// limit of a text holds for the line without the first of them.
func TestLengthOfSentLines(t *testing.T) {
	for _, first := range []string{"a", ".", "..", " ", "...."} {
		for _, length := range []int{198, 199, 200, 201, 202} {
			line := first + strings.Repeat("b", length-len(first))
			for _, lines := range [][]string{{line}, {"a", line}, {line, "."}} {
				if sent := expectSentByEnds(t, lines...); sent != (length <= 200) {
					t.Errorf("a line of %d bytes is sent: %v", length, sent)
				}
			}
			limit := 200
			if first[0] == '.' {
				limit = 201
			}
			for _, s := range []string{line + "\r\n.\r\n", "a\r\n" + line + "\r\n.\r\nb", line + "\r\n..\r\n.\r\n"} {
				if read := expectUnstuffedByForm(t, s); read != (length <= limit) {
					t.Errorf("a line of %d bytes is read: %v", length, read)
				}
			}
			expectUnstuffed(t, ".\r\n"+line+"\r\n", line+"\r\n")
		}
	}
}

// linesOnWire returns lines for which a number of bytes is sent.
func linesOnWire(length int, full string) []string {
	var lines []string
	left := length - len(".\r\n")
	sent := len(full) + len("\r\n")
	if full != "" && full[0] == '.' {
		sent++
	}
	for left > 2*sent+4 {
		lines = append(lines, full)
		left -= sent
	}
	for left > 202 {
		lines = append(lines, strings.Repeat("c", 100))
		left -= 102
	}
	return append(lines, strings.Repeat("c", left-2))
}

func TestLimitOfWireThatIsSent(t *testing.T) {
	for _, full := range []string{"", ".", "..", "a", ".a", strings.Repeat("a", 200), strings.Repeat(".", 200), strings.Repeat("a", 77)} {
		for length := 1990; length <= 2010; length++ {
			lines := linesOnWire(length, full)
			sent, ok := impl.StuffLines(lines)
			if ok != (length <= 2000) || ok && len(sent) != length {
				t.Errorf("StuffLines of lines like %q = %d bytes, %v, want %d", full, len(sent), ok, length)
			}
			if expectSentByEnds(t, lines...) != ok {
				t.Errorf("%d bytes are sent: %v", length, ok)
			}
		}
	}
}

// The point more of a line and the line with a point count too.
func TestLimitOfWireWithPoints(t *testing.T) {
	lines := slices.Repeat([]string{strings.Repeat("a", 198)}, 9)
	for length := 185; length <= 200; length++ {
		for point, first := range []string{"b", "."} {
			last := first + strings.Repeat("b", length-1)
			sent := 9*200 + point + length + 2 + 3
			if ok := expectSentByEnds(t, append(slices.Clone(lines), last)...); ok != (sent <= 2000) {
				t.Errorf("%d bytes are sent: %v", sent, ok)
			}
			if ok := expectSentByEnds(t, append([]string{last}, lines...)...); ok != (sent <= 2000) {
				t.Errorf("%d bytes are sent: %v", sent, ok)
			}
		}
	}
	expectNotSent(t, append(slices.Clone(lines), strings.Repeat("b", 195), "")...)
	expectNotSent(t, append(slices.Clone(lines), strings.Repeat("b", 194), "")...)
	expectSentByEnds(t, append(slices.Clone(lines), strings.Repeat("b", 193), "")...)
	expectNotSent(t, slices.Repeat([]string{strings.Repeat("a", 200)}, 10)...)
}

func TestManyLinesAreNotSent(t *testing.T) {
	if got, ok := impl.StuffLines(make([]string, 998)); !ok || got != strings.Repeat("\r\n", 998)+".\r\n" {
		t.Errorf("StuffLines of 998 lines = %d bytes, %v", len(got), ok)
	}
	for _, number := range []int{999, 1000, 100000} {
		if got, ok := impl.StuffLines(make([]string, number)); ok || got != "" {
			t.Errorf("StuffLines of %d lines = %d bytes, %v", number, len(got), ok)
		}
	}
	long := slices.Repeat([]string{strings.Repeat("a", 200)}, 1<<20)
	if got, ok := impl.StuffLines(long); ok || got != "" {
		t.Errorf("StuffLines of %d long lines = %d bytes, %v", len(long), len(got), ok)
	}
}

// All of the text counts, also what is behind the message.
func TestLimitOfWireThatIsRead(t *testing.T) {
	for length := 1990; length <= 2010; length++ {
		for _, full := range []string{"", ".", "a", strings.Repeat("a", 200), "." + strings.Repeat("a", 199)} {
			s := sentByEnds(linesOnWire(length, full))
			if len(s) != length {
				t.Fatalf("%d bytes, want %d", len(s), length)
			}
			if read := expectUnstuffedByForm(t, s); read != (length <= 2000) {
				t.Errorf("%d bytes are read: %v", length, read)
			}
		}
		for _, s := range []string{".\r\n", "a\r\n.\r\n", "a\r\n..b\r\n.\r\n"} {
			rest := strings.Repeat("\x00", length-len(s))
			if read := expectUnstuffedByForm(t, s+rest); read != (length <= 2000) {
				t.Errorf("%d bytes are read: %v", length, read)
			}
			lines, left, ok := impl.UnstuffText(s + rest)
			if length <= 2000 && (left != rest || !ok) {
				t.Errorf("%d bytes are left, want %d", len(left), len(rest))
			}
			if length > 2000 && (left != "" || len(lines) != 0 || ok) {
				t.Errorf("UnstuffText of %d bytes = %q, %d bytes, %v", length, lines, len(left), ok)
			}
		}
	}
	expectNotUnstuffed(t, ".\r\n"+strings.Repeat("a", 100000))
}

func TestUnstuffText(t *testing.T) {
	expectUnstuffed(t, ".\r\n", "")
	expectUnstuffed(t, ".\r\nQUIT\r\n", "QUIT\r\n")
	expectUnstuffed(t, ".\r\n.\r\n", ".\r\n")
	expectUnstuffed(t, ".\r\n\r\n", "\r\n")
	expectUnstuffed(t, "a\r\n.\r\nb\r\n.\r\n", "b\r\n.\r\n", "a")
	expectUnstuffed(t, "\r\n.\r\n", "", "")
	expectUnstuffed(t, "..\r\n.\r\n", "", ".")
	expectUnstuffed(t, "...\r\n.\r\n", "", "..")
	expectUnstuffed(t, "a.\r\n.\r\n", "", "a.")
	expectUnstuffed(t, " .\r\n.\r\n", "", " .")
}

// A line may begin with one point, which StuffLines never sends.
func TestUnstuffTextWithOnePoint(t *testing.T) {
	expectUnstuffed(t, ".x\r\n.\r\n", "", "x")
	expectUnstuffed(t, ". \r\n.\r\n", "", " ")
	expectUnstuffed(t, ".a.\r\n.\r\n.b\r\n", ".b\r\n", "a.")
	expectUnstuffed(t, "x\r\n.x\r\n..x\r\n.\r\n", "", "x", "x", ".x")
	line := strings.Repeat("a", 200)
	expectUnstuffed(t, "."+line+"\r\n.\r\n", "", line)
	expectUnstuffed(t, ".."+line[1:]+"\r\n.\r\n", "", "."+line[1:])
	expectNotUnstuffed(t, "."+line+"a\r\n.\r\n")
	expectNotUnstuffed(t, ".."+line+"\r\n.\r\n")
	expectNotUnstuffed(t, line+"a\r\n.\r\n")
}

// What is behind the message may be anything.
func TestWhatIsBehindAMessage(t *testing.T) {
	rests := []string{"\r", "\n", "\r\n", ".", ".\r", ".\n", "..\r\n", "\x00\xff", "é", "\n.\r\n", "\r.\r\n", strings.Repeat("a", 300) + "\r\n", "\t\r\n.\r\n"}
	for _, rest := range rests {
		expectUnstuffed(t, ".\r\n"+rest, rest)
		expectUnstuffed(t, "a\r\n..\r\n.\r\n"+rest, rest, "a", ".")
	}
}

func TestUnstuffTextOfOtherText(t *testing.T) {
	for _, s := range []string{
		"", ".", ".\r", ".\n", ".\n\r", "\r\n", "\n.\n", "a", "a\r\n", "a.\r\n", "..\r\n", " .\r\n", ". \r\n", ".\r\r\n", "\r.\r\n", "\n.\r\n",
		"a\r\n.", "a\r\n.\r", "a\r\n.\n", "a\n.\r\n", "a\r.\r\n", "a\r\n\n.\r\n", "a\r\n..\r\n", "a\r\n.b\r\n", "a\r\n\r.\r\n",
		"a\n\r\n.\r\n", "a\r\r\n.\r\n", "\r\r\n.\r\n", "\n\r\n.\r\n", ".\r\r\n.\r\n", ".\n\r\n.\r\n", ".\r.\r\n.\r\n", "..\r\r\n.\r\n",
		"\t\r\n.\r\n", "a\r\n\x00\r\n.\r\n", "a\x7f\r\n.\r\n", ".\x80\r\n.\r\n", "é\r\n.\r\n", "a\r\n.\x1f\r\nb\r\n.\r\n",
	} {
		expectNotUnstuffed(t, s)
		if _, _, ok := unstuffByForm(s); ok {
			t.Errorf("the second reader reads %q", s)
		}
	}
}

// Whatever the lines are, the only line with a point only is the last one.
func TestNoLineIsTakenForTheEnd(t *testing.T) {
	texts := append(stringsOver(".a ", 3), "....", ".....", "QUIT", ".QUIT", "..QUIT")
	for _, one := range texts {
		expectEndIsLast(t, one)
		for _, two := range texts {
			expectEndIsLast(t, one, two)
		}
	}
	for _, one := range stringsOver(".a", 2) {
		for _, two := range stringsOver(".a", 2) {
			for _, three := range stringsOver(".a", 2) {
				expectEndIsLast(t, one, two, three)
			}
		}
	}
}

func expectEndIsLast(t *testing.T, lines ...string) {
	t.Helper()
	if !expectSentByEnds(t, lines...) {
		t.Errorf("%q is not sent", lines)
	}
	sent, _ := impl.StuffLines(lines)
	parts, rest := impl.SplitWire(sent)
	if rest != "" || len(parts) != len(lines)+1 || slices.Index(parts, ".") != len(lines) {
		t.Errorf("SplitWire(%q) = %q, %q", sent, parts, rest)
	}
	if impl.NormalText(sent) != sent || impl.CountBare(sent) != 0 {
		t.Errorf("the ends of %q are not normal", sent)
	}
}

func TestWireOfPieces(t *testing.T) {
	read := 0
	for _, s := range stringsOf([]string{".", "a", "\r", "\n", "\r\n", ".\r\n"}, 6) {
		expectEndsByForm(t, s)
		if expectUnstuffedByForm(t, s) {
			read++
			expectOneForm(t, s)
		}
	}
	if read < 1000 {
		t.Errorf("only %d texts are read", read)
	}
}

// expectOneForm sends again what is read, which is the same but for the points
// of lines that begin with one point only.
func expectOneForm(t *testing.T, s string) {
	t.Helper()
	lines, rest, _ := impl.UnstuffText(s)
	sent, ok := impl.StuffLines(lines)
	again, left, fine := impl.UnstuffText(sent + rest)
	if !ok || !fine || left != rest || !slices.Equal(again, lines) {
		t.Errorf("what is read from %q is sent as %q, %v, and read as %q, %q, %v", s, sent, ok, again, left, fine)
	}
	parts, _ := impl.SplitWire(s)
	normal := true
	for i, line := range lines {
		normal = normal && (line == parts[i] || line[0] == '.')
	}
	if (sent+rest == s) != normal {
		t.Errorf("what is read from %q is sent as %q", s, sent+rest)
	}
}

func TestLongWire(t *testing.T) {
	random := rand.New(rand.NewSource(9))
	pieces := []string{".", "..", "a", " ", "\r\n", "\r\n.", "\r\n..", "\r\n.\r\n", strings.Repeat("b", 190), "cccccccccc"}
	others := []string{"\r", "\n", "\x00", "\xff", "é"}
	read := 0
	for range 20000 {
		s := ""
		for range random.Intn(60) {
			s += pieces[random.Intn(len(pieces))]
			if random.Intn(80) == 0 {
				s += others[random.Intn(len(others))]
			}
		}
		expectEndsByForm(t, s)
		if expectUnstuffedByForm(t, s) {
			read++
			expectOneForm(t, s)
		}
	}
	if read < 1000 || read > 19000 {
		t.Errorf("%d texts are read", read)
	}
}

func TestManyLinesAreReadBack(t *testing.T) {
	random := rand.New(rand.NewSource(99))
	bytes := printed() + "......................"
	sent := 0
	for range 5000 {
		var lines []string
		for range random.Intn(40) {
			line := ""
			for range random.Intn(random.Intn(150) + 1) {
				line += string(bytes[random.Intn(len(bytes))])
			}
			lines = append(lines, line)
		}
		if expectSentByEnds(t, lines...) {
			sent++
		}
	}
	if sent < 1000 || sent == 5000 {
		t.Errorf("%d messages are sent", sent)
	}
}

func TestNormalText(t *testing.T) {
	expectNormal(t, "", "", 0)
	expectNormal(t, "a", "a", 0)
	expectNormal(t, "a\r\nb\r\n", "a\r\nb\r\n", 0)
	expectNormal(t, "a\nb\r\nc\rd\r\r\n\n", "a\r\nb\r\nc\r\nd\r\n\r\n\r\n", 4)
	expectNormal(t, "\n", "\r\n", 1)
	expectNormal(t, "\r", "\r\n", 1)
	expectNormal(t, "\r\n", "\r\n", 0)
	expectNormal(t, "\n\r", "\r\n\r\n", 2)
	expectNormal(t, "\r\r", "\r\n\r\n", 2)
	expectNormal(t, "\n\n", "\r\n\r\n", 2)
	expectNormal(t, "\r\r\n", "\r\n\r\n", 1)
	expectNormal(t, "\r\n\n", "\r\n\r\n", 1)
	expectNormal(t, "\n\r\n", "\r\n\r\n", 1)
	expectNormal(t, "\r\n\r", "\r\n\r\n", 1)
	expectNormal(t, "\r\n\r\n", "\r\n\r\n", 0)
	expectNormal(t, "\r\r\n\n", "\r\n\r\n\r\n", 2)
	expectNormal(t, "a\r", "a\r\n", 1)
	expectNormal(t, "\na", "\r\na", 1)
	expectNormal(t, ".\n", ".\r\n", 1)
	expectNormal(t, "\r \n", "\r\n \r\n", 2)
	expectNormal(t, "\x00\xff\n\x80é", "\x00\xff\r\n\x80é", 1)
	expectNormal(t, "\x0b\x0c\u0085\u2028", "\x0b\x0c\u0085\u2028", 0)
	expectNormal(t, `\r\n`, `\r\n`, 0)
}

func TestSplitWire(t *testing.T) {
	expectSplitWire(t, "", "")
	expectSplitWire(t, "a", "a")
	expectSplitWire(t, "\r\n", "", "")
	expectSplitWire(t, "a\r\n", "", "a")
	expectSplitWire(t, "a\r\nb", "b", "a")
	expectSplitWire(t, "\r\na", "a", "")
	expectSplitWire(t, "a\r\n\r\nb\r\n", "", "a", "", "b")
	expectSplitWire(t, "a\r\n\nb\r\nc\r", "c\r", "a", "\nb")
	expectSplitWire(t, "\r", "\r")
	expectSplitWire(t, "\n", "\n")
	expectSplitWire(t, "\n\r", "\n\r")
	expectSplitWire(t, "\r\r\n", "", "\r")
	expectSplitWire(t, "\r\n\n", "\n", "")
	expectSplitWire(t, "a\r\r\n\nb", "\nb", "a\r")
	expectSplitWire(t, "\r\n\r", "\r", "")
	expectSplitWire(t, "..\r\n.\r\nQUIT\r\n", "", "..", ".", "QUIT")
	expectSplitWire(t, "\x00\xff\r\né", "é", "\x00\xff")
}

// MaxWire and MaxText do not hold for these three.
func TestEndsHaveNoLimit(t *testing.T) {
	for _, piece := range []string{"a", "\r", "\n", "\r\n", "\n\r", "\r\r\n", "a\nb\rc\r\n", strings.Repeat("a", 201) + "\r\n"} {
		for _, length := range []int{1999, 2000, 2001, 40000} {
			expectEndsByForm(t, strings.Repeat(piece, length/len(piece)+1)[:length])
		}
	}
	parts, rest := impl.SplitWire(strings.Repeat("\r\n", 100000))
	if len(parts) != 100000 || rest != "" {
		t.Errorf("SplitWire = %d parts, %q", len(parts), rest)
	}
}

func TestLinesLeaveArguments(t *testing.T) {
	lines := []string{".a", "b", "rest"}
	kept := slices.Clone(lines)
	sent, _ := impl.StuffLines(lines[:2])
	impl.StuffLines([]string{"a", "\r"})
	if sent != "..a\r\nb\r\n.\r\n" || !slices.Equal(lines, kept) {
		t.Errorf("StuffLines = %q, and the argument became %q", sent, lines)
	}
	one, _, _ := impl.UnstuffText(sent)
	two, rest, _ := impl.UnstuffText(sent + "rest")
	overwriteLines(one)
	if !slices.Equal(two, lines[:2]) || rest != "rest" || !slices.Equal(lines, kept) {
		t.Errorf("results share memory: %q, %q, %q", two, rest, lines)
	}
	parts, _ := impl.SplitWire(sent)
	others, left := impl.SplitWire(sent + "rest")
	overwriteLines(parts)
	if !slices.Equal(others, []string{"..a", "b", "."}) || left != "rest" {
		t.Errorf("results share memory: %q, %q", others, left)
	}
	if got, ok := impl.StuffLines(two); !ok || got != sent {
		t.Errorf("StuffLines = %q, %v, want %q", got, ok, sent)
	}
}
