package tests

import (
	"encoding/base64"
	"encoding/hex"
	"fmt"
	"math"
	"math/rand"
	"regexp"
	"slices"
	"strings"
	"testing"

	"loop.example/mailwire/impl"
)

// letterBytes is written out here, as atomBytes is.
const letterBytes = "ABCDEFGHIJKLMNOPQRSTUVWXYZabcdefghijklmnopqrstuvwxyz0123456789+/"

// expectCoded holds the lines of bytes in a way against what is wanted, and
// reads them back.
func expectCoded(t *testing.T, b string, code int, want ...string) {
	t.Helper()
	if got, ok := impl.EncodeBytes(b, code); !ok || !slices.Equal(got, want) {
		t.Errorf("EncodeBytes(%q, %d) = %q, %v, want %q", b, code, got, ok, want)
	}
	switch code {
	case impl.CodeQuoted:
		if got, ok := impl.EncodeQuoted(b); !ok || !slices.Equal(got, want) {
			t.Errorf("EncodeQuoted(%q) = %q, %v, want %q", b, got, ok, want)
		}
	case impl.CodeBase:
		if got, ok := impl.EncodeBase(b); !ok || !slices.Equal(got, want) {
			t.Errorf("EncodeBase(%q) = %q, %v, want %q", b, got, ok, want)
		}
	}
	expectDecoded(t, b, code, want...)
}

// expectDecoded holds the bytes of lines in a way against what is wanted.
func expectDecoded(t *testing.T, want string, code int, lines ...string) {
	t.Helper()
	if got, ok := impl.DecodeBytes(lines, code); !ok || got != want {
		t.Errorf("DecodeBytes(%q, %d) = %q, %v, want %q", lines, code, got, ok, want)
	}
	switch code {
	case impl.CodeQuoted:
		if got, ok := impl.DecodeQuoted(lines); !ok || got != want {
			t.Errorf("DecodeQuoted(%q) = %q, %v, want %q", lines, got, ok, want)
		}
	case impl.CodeBase:
		if got, ok := impl.DecodeBase(lines); !ok || got != want {
			t.Errorf("DecodeBase(%q) = %q, %v, want %q", lines, got, ok, want)
		}
	}
}

func expectNotCoded(t *testing.T, b string, code int) {
	t.Helper()
	if got, ok := impl.EncodeBytes(b, code); ok || len(got) != 0 {
		t.Errorf("EncodeBytes(%q, %d) = %q, %v, want none", b, code, got, ok)
	}
}

func expectNotDecoded(t *testing.T, code int, lines ...string) {
	t.Helper()
	if got, ok := impl.DecodeBytes(lines, code); ok || got != "" {
		t.Errorf("DecodeBytes(%q, %d) = %q, %v, want none", lines, code, got, ok)
	}
	switch code {
	case impl.CodeQuoted:
		if got, ok := impl.DecodeQuoted(lines); ok || got != "" {
			t.Errorf("DecodeQuoted(%q) = %q, %v, want none", lines, got, ok)
		}
	case impl.CodeBase:
		if got, ok := impl.DecodeBase(lines); ok || got != "" {
			t.Errorf("DecodeBase(%q) = %q, %v, want none", lines, got, ok)
		}
	}
}

func expectBest(t *testing.T, b string, want int) {
	t.Helper()
	if got, ok := impl.BestCode(b); !ok || got != want {
		t.Errorf("BestCode(%q) = %d, %v, want %d", b, got, ok, want)
	}
}

// expectTooLong holds more bytes than the limit against all ways.
func expectTooLong(t *testing.T, b string) {
	t.Helper()
	for code := -1; code <= 3; code++ {
		expectNotCoded(t, b, code)
	}
	if got, ok := impl.EncodeBase(b); ok || len(got) != 0 {
		t.Errorf("EncodeBase of %d bytes = %q, %v", len(b), got, ok)
	}
	if got, ok := impl.EncodeQuoted(b); ok || len(got) != 0 {
		t.Errorf("EncodeQuoted of %d bytes = %q, %v", len(b), got, ok)
	}
	if got, ok := impl.BestCode(b); ok || got != 0 {
		t.Errorf("BestCode of %d bytes = %d, %v", len(b), got, ok)
	}
}

// cutEvery divides a text into lines of a width, one at least.
func cutEvery(s string, width int) []string {
	var lines []string
	for len(s) > width {
		lines = append(lines, s[:width])
		s = s[width:]
	}
	return append(lines, s)
}

func baseByPackage(b string) []string {
	return cutEvery(base64.StdEncoding.EncodeToString([]byte(b)), 40)
}

func readBaseByPackage(lines []string) (string, bool) {
	letters := strings.Join(lines, "")
	b, err := base64.StdEncoding.Strict().DecodeString(letters)
	// The package passes over the ends of lines.
	if err != nil || strings.ContainsAny(letters, "\r\n") || len(b) > 300 {
		return "", false
	}
	return string(b), true
}

// quotedByCuts is another way to write quoted lines: all of a part is written,
// and then cut where no `=` is apart from its digits.
func quotedByCuts(b string) []string {
	var lines []string
	for _, part := range strings.Split(b, "\n") {
		spaces := strings.HasSuffix(part, " ")
		written := ""
		for _, c := range []byte(strings.TrimSuffix(part, " ")) {
			if c < ' ' || c > '~' || c == '=' {
				written += fmt.Sprintf("=%02X", c)
			} else {
				written += string(rune(c))
			}
		}
		if spaces {
			written += "=20"
		}
		for len(written) > 39 {
			cut := 39
			if at := strings.IndexByte(written[37:39], '='); at >= 0 {
				cut = 37 + at
			}
			lines = append(lines, written[:cut]+"=")
			written = written[cut:]
		}
		lines = append(lines, written)
	}
	return lines
}

var (
	quotedForm = regexp.MustCompile(`^(?:[ -<>-~]|=[0-9A-F]{2})*=?$`)
	escapeForm = regexp.MustCompile(`=[0-9A-F]{2}`)
	plainForm  = regexp.MustCompile(`^[ -~]{0,40}(?:\n[ -~]{0,40})*$`)
)

// readQuotedByForm is another way to read quoted lines.
func readQuotedByForm(lines []string) (string, bool) {
	for _, line := range lines {
		if !quotedForm.MatchString(line) {
			return "", false
		}
	}
	if len(lines) == 0 || strings.HasSuffix(lines[len(lines)-1], "=") {
		return "", false
	}
	joined := strings.ReplaceAll(strings.Join(lines, "\n"), "=\n", "")
	b := escapeForm.ReplaceAllStringFunc(joined, func(s string) string {
		c, _ := hex.DecodeString(s[1:])
		return string(c)
	})
	if len(b) > 300 {
		return "", false
	}
	return b, true
}

func bestByLengths(b string) int {
	if plainForm.MatchString(b) {
		return 0
	}
	if len(strings.Join(baseByPackage(b), "\n")) < len(strings.Join(quotedByCuts(b), "\n")) {
		return 2
	}
	return 1
}

// expectAllWays holds at most 300 bytes against the other writers.
func expectAllWays(t *testing.T, b string) {
	t.Helper()
	expectCoded(t, b, impl.CodeBase, baseByPackage(b)...)
	expectCoded(t, b, impl.CodeQuoted, quotedByCuts(b)...)
	if plainForm.MatchString(b) {
		expectCoded(t, b, impl.CodePlain, strings.Split(b, "\n")...)
	} else {
		expectNotCoded(t, b, impl.CodePlain)
		expectNotDecoded(t, impl.CodePlain, strings.Split(b, "\n")...)
	}
	expectBest(t, b, bestByLengths(b))
}

func expectAsByPackage(t *testing.T, lines ...string) {
	t.Helper()
	if want, ok := readBaseByPackage(lines); ok {
		expectDecoded(t, want, impl.CodeBase, lines...)
	} else {
		expectNotDecoded(t, impl.CodeBase, lines...)
	}
}

func expectAsByQuotedForm(t *testing.T, lines ...string) {
	t.Helper()
	if want, ok := readQuotedByForm(lines); ok {
		expectDecoded(t, want, impl.CodeQuoted, lines...)
	} else {
		expectNotDecoded(t, impl.CodeQuoted, lines...)
	}
}

func TestLimitsOfCodes(t *testing.T) {
	if impl.MaxBytes != 300 || impl.CodeWidth != 40 {
		t.Errorf("MaxBytes = %d, CodeWidth = %d", impl.MaxBytes, impl.CodeWidth)
	}
	if impl.CodePlain != 0 || impl.CodeQuoted != 1 || impl.CodeBase != 2 {
		t.Errorf("CodePlain = %d, CodeQuoted = %d, CodeBase = %d", impl.CodePlain, impl.CodeQuoted, impl.CodeBase)
	}
}

func TestNoBytes(t *testing.T) {
	for code := range 3 {
		expectCoded(t, "", code, "")
	}
	expectBest(t, "", impl.CodePlain)
	expectNotDecoded(t, impl.CodePlain)
	expectNotDecoded(t, impl.CodeQuoted)
	expectDecoded(t, "", impl.CodeBase)
	expectDecoded(t, "", impl.CodeBase, []string{}...)
	expectDecoded(t, "", impl.CodeBase, "", "")
	expectDecoded(t, "", impl.CodeBase, make([]string, 1000)...)
	expectDecoded(t, "\n", impl.CodePlain, "", "")
	expectDecoded(t, "\n", impl.CodeQuoted, "", "")
	expectDecoded(t, "", impl.CodeQuoted, "=", "=", "")
}

func TestBaseOfGroups(t *testing.T) {
	for b, want := range map[string]string{
		"M": "TQ==", "Ma": "TWE=", "Man": "TWFu", "Mana": "TWFuYQ==", "a=b": "YT1i", "f": "Zg==", "fo": "Zm8=", "foo": "Zm9v", "foob": "Zm9vYg==", "fooba": "Zm9vYmE=", "foobar": "Zm9vYmFy",
		"\x00": "AA==", "\x00\x00": "AAA=", "\x00\x00\x00": "AAAA", "\xff": "/w==", "\xff\xff": "//8=", "\xff\xff\xff": "////", "\xff\xff\xfe": "///+", "\xfb\xff\xbf": "+/+/",
		"\x00\x00\x01": "AAAB", "\x00\x01\x00": "AAEA", "\x01\x00\x00": "AQAA", "\n": "Cg==", "\r\n": "DQo=", " ": "IA==", "=": "PQ==", "==": "PT0=",
	} {
		expectCoded(t, b, impl.CodeBase, want)
	}
}

func TestBytesOfGroups(t *testing.T) {
	for c := range 256 {
		s := string([]byte{byte(c)})
		for _, b := range []string{s, s + "a", "a" + s, s + s, s + "ab", "a" + s + "b", "ab" + s, s + s + s, "abc" + s} {
			expectCoded(t, b, impl.CodeBase, baseByPackage(b)...)
		}
	}
}

func TestLettersOfGroups(t *testing.T) {
	for at := range 4 {
		for value := range 64 {
			letters := "AAAA"[:at] + letterBytes[value:value+1] + "AAAA"[at+1:]
			number := value << (18 - 6*at)
			expectCoded(t, string([]byte{byte(number >> 16), byte(number >> 8), byte(number)}), impl.CodeBase, letters)
		}
	}
	for value := range 64 {
		letter := letterBytes[value : value+1]
		// Of the last letter, the digits that belong to no byte are 0.
		if value%4 == 0 {
			expectCoded(t, string([]byte{0, byte(value >> 2)}), impl.CodeBase, "AA"+letter+"=")
		} else {
			expectNotDecoded(t, impl.CodeBase, "AA"+letter+"=")
		}
		if value%16 == 0 {
			expectCoded(t, string([]byte{byte(value >> 4)}), impl.CodeBase, "A"+letter+"==")
		} else {
			expectNotDecoded(t, impl.CodeBase, "A"+letter+"==")
		}
	}
}

// 30 bytes make a line that is just full, and one more begins another.
func TestWidthOfBase(t *testing.T) {
	full := strings.Repeat("////", 10)
	ff := strings.Repeat("\xff", 300)
	expectCoded(t, ff[:28], impl.CodeBase, full[:36]+"/w==")
	expectCoded(t, ff[:29], impl.CodeBase, full[:36]+"//8=")
	expectCoded(t, ff[:30], impl.CodeBase, full)
	expectCoded(t, ff[:31], impl.CodeBase, full, "/w==")
	expectCoded(t, ff[:32], impl.CodeBase, full, "//8=")
	expectCoded(t, ff[:60], impl.CodeBase, full, full)
	expectCoded(t, ff[:61], impl.CodeBase, full, full, "/w==")
	expectCoded(t, ff[:299], impl.CodeBase, append(slices.Repeat([]string{full}, 9), full[:36]+"//8=")...)
	expectCoded(t, ff, impl.CodeBase, slices.Repeat([]string{full}, 10)...)
}

func TestLettersHoweverDivided(t *testing.T) {
	for _, n := range []int{1, 2, 3, 29, 30, 31, 59, 298, 299, 300} {
		b := strings.Repeat("Zo\xc3\xab\n", 60)[:n]
		letters := strings.Join(baseByPackage(b), "")
		for width := 1; width <= len(letters); width++ {
			expectDecoded(t, b, impl.CodeBase, cutEvery(letters, width)...)
		}
		for at := range len(letters) + 1 {
			expectDecoded(t, b, impl.CodeBase, letters[:at], letters[at:])
			expectDecoded(t, b, impl.CodeBase, "", letters[:at], "", "", letters[at:], "")
		}
	}
	expectDecoded(t, "Man", impl.CodeBase, "TW", "", "Fu")
	expectDecoded(t, "M", impl.CodeBase, "T", "Q", "=", "=")
	expectDecoded(t, "M", impl.CodeBase, "TQ=", "", "=")
	expectDecoded(t, "Ma", impl.CodeBase, "TWE", "=")
}

func TestLettersOfNoBytes(t *testing.T) {
	for _, s := range []string{
		"T", "TQ", "TQ=", "TWE", "TWFuT", "TWFuTQ", "TWFuTQ=", "TWFuTWE", // not full
		"=", "==", "===", "====", "A===", "T===", "TWFu=", "TWFu==", "TWFu====", "TQ===", "TWE==", "TQ==TQ==", "TQ==TWFu", "TWE=TWFu", "TQ=a", "TQ=A", "=TQ=", "TQ==\n", "T=Q=", "=AAA", // not at the end
		"TR==", "TX==", "TWF=", "TWG=", "//==", "///=", "Af==", // digits that are not 0
		"T Q=", " TQ==", "TQ== ", "TW Fu", "TWFu ", " ", "    ", "TWFu\n", "\nTWFu", "TW\r\nFu", "TW\tFu", "TW-u", "TW_u", "TW.u", "TW,u", "TW*u", "TWF\x00", "TWF\x7f", "TWF\xff", "Zo\u00eb", "\u0410AAA",
	} {
		expectNotDecoded(t, impl.CodeBase, s)
		expectNotDecoded(t, impl.CodeBase, "TWFu", s)
		expectNotDecoded(t, impl.CodeBase, "", s, "")
		expectNotDecoded(t, impl.CodeBase, cutEvery(s, 1)...)
	}
	expectNotDecoded(t, impl.CodeBase, "TQ==", "TWFu")
	expectNotDecoded(t, impl.CodeBase, "TQ==", "=")
	expectNotDecoded(t, impl.CodeBase, "TQ", "=a", "")
	expectNotDecoded(t, impl.CodeBase, "A", "===")
	for c := range 256 {
		s := string([]byte{byte(c)})
		for at := range 4 {
			lines := "TWFuAAAA"[:4+at] + s + "AAAA"[at+1:]
			if strings.Contains(letterBytes, s) || c == '=' && at == 3 {
				expectAsByPackage(t, lines)
			} else {
				expectNotDecoded(t, impl.CodeBase, lines)
			}
		}
	}
}

// Lines of few letters, held against the package base64.
func TestLettersByPackage(t *testing.T) {
	for _, s := range stringsOver("AQTEw/= ", 5) {
		expectAsByPackage(t, s)
	}
	pieces := []string{"TQ==", "TWE=", "TWFu", "TR", "=", "A"}
	for _, s := range stringsOf(pieces, 4) {
		expectAsByPackage(t, s)
		expectAsByPackage(t, cutEvery(s, 3)...)
	}
	expectAsByPackage(t, "TW\nFu")
	expectAsByPackage(t, "TWFu\r\n")
}

func TestQuotedBytes(t *testing.T) {
	for c := range 256 {
		s := string([]byte{byte(c)})
		itself := c >= 33 && c <= 126 && c != '='
		written := s
		if !itself {
			written = "=" + strings.ToUpper(hex.EncodeToString([]byte{byte(c)}))
		}
		switch c {
		case '\n':
			expectCoded(t, s, impl.CodeQuoted, "", "")
			expectCoded(t, "a"+s+"b", impl.CodeQuoted, "a", "b")
			expectCoded(t, s+s+"b"+s, impl.CodeQuoted, "", "", "b", "")
		case ' ':
			expectCoded(t, s+"b", impl.CodeQuoted, " b")
			expectCoded(t, "a"+s+"b", impl.CodeQuoted, "a b")
			expectCoded(t, s, impl.CodeQuoted, written)
			expectCoded(t, s+"\n"+s, impl.CodeQuoted, written, written)
		default:
			expectCoded(t, s, impl.CodeQuoted, written)
			expectCoded(t, s+s, impl.CodeQuoted, written+written)
			expectCoded(t, "a"+s+"b", impl.CodeQuoted, "a"+written+"b")
			expectCoded(t, s+"\n"+s, impl.CodeQuoted, written, written)
			expectCoded(t, " "+s+" b", impl.CodeQuoted, " "+written+" b")
		}
		// It is written in a longer way than is needed, but can be read.
		escape := "=" + strings.ToUpper(hex.EncodeToString([]byte{byte(c)}))
		expectDecoded(t, "a"+s+"b"+s, impl.CodeQuoted, "a"+escape+"b"+escape)
	}
	expectCoded(t, "a=b", impl.CodeQuoted, "a=3Db")
	expectCoded(t, "Zo\u00eb", impl.CodeQuoted, "Zo=C3=AB")
	expectCoded(t, "a\r\nb", impl.CodeQuoted, "a=0D", "b")
	expectCoded(t, "=3D", impl.CodeQuoted, "=3D3D")
	expectCoded(t, "=\n=", impl.CodeQuoted, "=3D", "=3D")
	expectCoded(t, ".", impl.CodeQuoted, ".")
	expectCoded(t, "\t\x00\x7f", impl.CodeQuoted, "=09=00=7F")
	expectCoded(t, "a=b c \n\xff", impl.CodeQuoted, "a=3Db c=20", "=FF")
}

func TestQuotedSpaces(t *testing.T) {
	expectCoded(t, " ", impl.CodeQuoted, "=20")
	expectCoded(t, "  ", impl.CodeQuoted, " =20")
	expectCoded(t, "a ", impl.CodeQuoted, "a=20")
	expectCoded(t, "a   ", impl.CodeQuoted, "a  =20")
	expectCoded(t, " a", impl.CodeQuoted, " a")
	expectCoded(t, "a \n", impl.CodeQuoted, "a=20", "")
	expectCoded(t, "a \nb", impl.CodeQuoted, "a=20", "b")
	expectCoded(t, "a  \n b", impl.CodeQuoted, "a =20", " b")
	expectCoded(t, " \n \n ", impl.CodeQuoted, "=20", "=20", "=20")
	expectCoded(t, "a \r\n", impl.CodeQuoted, "a =0D", "")
	expectCoded(t, "a \x00", impl.CodeQuoted, "a =00")
	expectCoded(t, "a =", impl.CodeQuoted, "a =3D")
	expectDecoded(t, "a ", impl.CodeQuoted, "a ")
	expectDecoded(t, "a \n  \nb", impl.CodeQuoted, "a ", "  ", "b")
	expectDecoded(t, " a b", impl.CodeQuoted, " a =", "b")
}

// A line has 39 bytes at most, and one more with the mark that it goes on.
func TestWidthOfQuoted(t *testing.T) {
	x := strings.Repeat("x", 300)
	expectCoded(t, x[:38], impl.CodeQuoted, x[:38])
	expectCoded(t, x[:39], impl.CodeQuoted, x[:39])
	expectCoded(t, x[:40], impl.CodeQuoted, x[:39]+"=", "x")
	expectCoded(t, x[:41], impl.CodeQuoted, x[:39]+"=", "xx")
	expectCoded(t, x[:78], impl.CodeQuoted, x[:39]+"=", x[:39])
	expectCoded(t, x[:79], impl.CodeQuoted, x[:39]+"=", x[:39]+"=", "x")
	expectCoded(t, x[:39]+"\n", impl.CodeQuoted, x[:39], "")
	expectCoded(t, x[:39]+"\n"+x[:39], impl.CodeQuoted, x[:39], x[:39])
	expectCoded(t, x[:40]+"\n", impl.CodeQuoted, x[:39]+"=", "x", "")
	expectCoded(t, x[:40]+"\n"+x[:40], impl.CodeQuoted, x[:39]+"=", "x", x[:39]+"=", "x")
	expectCoded(t, x[:36]+"=", impl.CodeQuoted, x[:36]+"=3D")
	expectCoded(t, x[:36]+"=\n", impl.CodeQuoted, x[:36]+"=3D", "")
	expectCoded(t, x[:36]+"=a", impl.CodeQuoted, x[:36]+"=3D=", "a")
	for n := 37; n <= 39; n++ {
		expectCoded(t, x[:n]+"=", impl.CodeQuoted, x[:n]+"=", "=3D")
		expectCoded(t, x[:n]+"\xff\n", impl.CodeQuoted, x[:n]+"=", "=FF", "")
	}
	expectCoded(t, x[:36]+" ", impl.CodeQuoted, x[:36]+"=20")
	expectCoded(t, x[:37]+" ", impl.CodeQuoted, x[:37]+"=", "=20")
	expectCoded(t, x[:38]+" ", impl.CodeQuoted, x[:38]+"=", "=20")
	expectCoded(t, x[:39]+" ", impl.CodeQuoted, x[:39]+"=", "=20")
	expectCoded(t, x[:38]+" \ny", impl.CodeQuoted, x[:38]+"=", "=20", "y")
	expectCoded(t, x[:38]+" y", impl.CodeQuoted, x[:38]+" =", "y")
	expectCoded(t, x[:39]+" y", impl.CodeQuoted, x[:39]+"=", " y")
	expectCoded(t, x[:38]+"  ", impl.CodeQuoted, x[:38]+" =", "=20")
	expectCoded(t, strings.Repeat(" ", 41), impl.CodeQuoted, strings.Repeat(" ", 39)+"=", " =20")
	expectCoded(t, strings.Repeat("\xff", 13), impl.CodeQuoted, strings.Repeat("=FF", 13))
	expectCoded(t, strings.Repeat("\xff", 14), impl.CodeQuoted, strings.Repeat("=FF", 13)+"=", "=FF")
	expectCoded(t, x, impl.CodeQuoted, append(slices.Repeat([]string{x[:39] + "="}, 7), x[:27])...)
	expectCoded(t, strings.Repeat("\n", 299), impl.CodeQuoted, make([]string, 300)...)
	expectCoded(t, strings.Repeat("\n", 300), impl.CodeQuoted, make([]string, 301)...)
}

// Bytes near the end of a full line, held against the other writers.
func TestCodesNearFullLines(t *testing.T) {
	ends := stringsOf([]string{"x", " ", "=", "\n", "\xff"}, 3)
	for _, start := range []string{"x", " ", "\n", "a\xff", "\xff", "xxx\n"} {
		for n := 25; n <= 42; n++ {
			for _, end := range ends {
				b := strings.Repeat(start, 42)[:n] + end
				expectAllWays(t, b)
				expectAllWays(t, "=\n"+b+"\n ")
			}
		}
	}
}

func TestReadQuoted(t *testing.T) {
	expectDecoded(t, "ab\n=", impl.CodeQuoted, "a=", "b", "=3D")
	expectDecoded(t, "abc", impl.CodeQuoted, "a=", "b=", "c")
	expectDecoded(t, "a", impl.CodeQuoted, "a=", "")
	expectDecoded(t, "a", impl.CodeQuoted, "=", "a")
	expectDecoded(t, "a\nb", impl.CodeQuoted, "a=", "=", "", "b")
	expectDecoded(t, "a\n", impl.CodeQuoted, "a", "")
	expectDecoded(t, "\na", impl.CodeQuoted, "", "a")
	expectDecoded(t, "\n\n", impl.CodeQuoted, "=0A=", "=0A")
	expectDecoded(t, "\n\n\n", impl.CodeQuoted, "=0A", "=0A")
	expectDecoded(t, "=", impl.CodeQuoted, "=3D=", "")
	expectDecoded(t, "3D", impl.CodeQuoted, "=", "3D")
	expectDecoded(t, "=3D", impl.CodeQuoted, "=3D3D")
	expectDecoded(t, "=\n=", impl.CodeQuoted, "=3D", "=3D")
	expectDecoded(t, "\x00\xff", impl.CodeQuoted, "=00=FF")
	expectDecoded(t, "a", impl.CodeQuoted, "=61")
	for _, n := range []int{39, 40, 41, 76, 200, 201, 300} {
		// There is no limit of the bytes of a line that is read.
		x := strings.Repeat("x", n)
		expectDecoded(t, x, impl.CodeQuoted, x)
		expectDecoded(t, x, impl.CodeQuoted, x[1:]+"=", "x")
		expectDecoded(t, x, impl.CodeQuoted, strings.Repeat("=78", n))
	}
}

func TestNotQuoted(t *testing.T) {
	for _, s := range []string{
		"a=", "=", "==", "===", "=3D=", "a= ", "= ", // goes on, or nearly so
		"=3", "=3 ", "a=3", "=D", "=3=", "==3D", "=3=D", "= 3D", "=3 D", "=G0", "=0G", "=/0", "=0/", "=:0", "=@0", "=0@", "=0x", "=-1", "=+1", "=3D=3", "=3D=D", "=XX", // no two digits
		"=3d", "=d3", "=ff", "=aF", "=Fa", "=c3=ab", // small letters
		"\x01", "\x00", "\x1f", "\x7f", "\xff", "\t", "a\tb", "a\n", "\na", "a\nb", "a\r", "a=\n", "=\nb", "a\xc3\xab", "Zo\u00eb", "=\x003", "=3\xff", "=\u0660\u0661", // something else
	} {
		expectNotDecoded(t, impl.CodeQuoted, s)
		expectNotDecoded(t, impl.CodeQuoted, "a", s)
		expectNotDecoded(t, impl.CodeQuoted, "a=", s)
		expectAsByQuotedForm(t, s, "a")
		expectAsByQuotedForm(t, s, "")
		expectAsByQuotedForm(t, "a", s, "b=", "=20")
	}
	for c := range 256 {
		s := string([]byte{byte(c)})
		for _, line := range []string{s, "a" + s, s + "a", "=" + s, "=3" + s, "=" + s + "3", "=3D" + s} {
			expectAsByQuotedForm(t, line)
			expectAsByQuotedForm(t, line, "a")
		}
		for d := range 256 {
			expectAsByQuotedForm(t, "a="+s+string([]byte{byte(d)}))
		}
	}
}

// Lines of few bytes, held against a reader by patterns.
func TestQuotedByForm(t *testing.T) {
	for _, s := range stringsOver("= 30Dd\n", 5) {
		expectAsByQuotedForm(t, strings.Split(s, "\n")...)
		expectAsByQuotedForm(t, s)
	}
	for _, s := range stringsOf([]string{"=3D", "=", "a", "F", "\n"}, 5) {
		expectAsByQuotedForm(t, strings.Split(s, "\n")...)
	}
}

func TestPlainLines(t *testing.T) {
	x := strings.Repeat("x", 301)
	expectCoded(t, "a\n\nb", impl.CodePlain, "a", "", "b")
	expectCoded(t, "hello", impl.CodePlain, "hello")
	expectCoded(t, "\n", impl.CodePlain, "", "")
	expectCoded(t, "a\n", impl.CodePlain, "a", "")
	expectCoded(t, "\na", impl.CodePlain, "", "a")
	expectCoded(t, " a ", impl.CodePlain, " a ")
	expectCoded(t, "a=\nb=3D", impl.CodePlain, "a=", "b=3D")
	expectCoded(t, ".\n..\n--b0", impl.CodePlain, ".", "..", "--b0")
	expectCoded(t, "\x20\x7e", impl.CodePlain, " ~")
	expectCoded(t, x[:39], impl.CodePlain, x[:39])
	expectCoded(t, x[:40], impl.CodePlain, x[:40])
	expectCoded(t, x[:40]+"\n"+x[:40], impl.CodePlain, x[:40], x[:40])
	expectCoded(t, strings.Repeat(" ", 40), impl.CodePlain, strings.Repeat(" ", 40))
	for _, b := range []string{x[:41], "a\n" + x[:41], x[:41] + "\na", x[:40] + "\n" + x[:41], x[:200], x[:300], "\x1f", "\x7f", "\x00", "\t", "a\r\nb", "a\n\xff\nb", "Zo\u00eb"} {
		expectNotCoded(t, b, impl.CodePlain)
		expectNotDecoded(t, impl.CodePlain, strings.Split(b, "\n")...)
	}
	for _, lines := range [][]string{nil, {}, {"\n"}, {"a\nb"}, {"a\n"}, {"a", "\nb"}, {"\t"}, {"a", "b\r"}, {x}, {"", "", x[:41]}} {
		expectNotDecoded(t, impl.CodePlain, lines...)
	}
	for c := range 256 {
		s := string([]byte{byte(c)})
		for _, b := range []string{s, "a" + s, s + "a", "a\nb" + s + "c\n"} {
			expectAllWays(t, b)
		}
		if c < 32 || c > 126 {
			expectNotDecoded(t, impl.CodePlain, s)
			expectNotDecoded(t, impl.CodePlain, "a", "b"+s)
		}
	}
}

func TestBestCode(t *testing.T) {
	for b, want := range map[string]int{
		"": 0, "hello": 0, "hello\nyou": 0, "=": 0, " ": 0, "a \n b": 0, "\n": 0, strings.Repeat("x", 40): 0, strings.Repeat("x", 40) + "\n" + strings.Repeat("=", 40): 0, strings.Repeat("\n", 300): 0,
		strings.Repeat("x", 41): 1, strings.Repeat("x", 300): 1, "caf\xc3\xa9 au lait": 1, "\xff": 1, "\r\n": 1, "Zo\u00eb": 1,
		"\xff\xff": 2, "\xff\xfe\xfd\xfc\xfb\xfa": 2, "\x00\x01\x02": 2, strings.Repeat("=", 41): 2, strings.Repeat("\xff", 300): 2,
		// Quoted lines have as many bytes as those of letters: 4 and 4, 8 and 8.
		"a\xff": 1, "\xffa": 1, "ab\xff\xff": 1,
		// They have one more, 9 and 8, or one less, 11 and 12.
		"abc\xff\xff": 2, "abcde\xff\xff": 1,
		// They have 6 and 8, but are 5 lines and 1.
		"\n\n\n\n\xff\xff": 2,
		// They would be shorter if a space at the end of a line was not escaped.
		"\xff \n ": 2,
	} {
		expectBest(t, b, want)
	}
	for n := range 301 {
		x := strings.Repeat("x", n)
		for _, b := range []string{x, strings.Repeat("\xff", n/3) + x[n/3:], strings.Repeat("\xff", n/6) + x[n/6:], strings.Repeat("\xff", n/8) + x[n/8:], strings.Repeat("x\n\x80", 100)[:n]} {
			expectBest(t, b, bestByLengths(b))
		}
	}
	for _, b := range stringsOf([]string{"a", " ", "\n", "\xff"}, 7) {
		expectBest(t, b, bestByLengths(b))
	}
}

func TestLimitOfBytes(t *testing.T) {
	for _, n := range []int{298, 299, 300} {
		for _, c := range []string{"x", " ", "\n", "=", "\xff", "\x00", "abc\n", "a\xff"} {
			expectAllWays(t, strings.Repeat(c, 300)[:n])
		}
	}
	for _, n := range []int{301, 302, 303, 304, 1000, 100000} {
		for _, c := range []string{"x", " ", "\n", "=", "\xff", "abc\n"} {
			expectTooLong(t, strings.Repeat(c, n)[:n])
		}
	}
	expectTooLong(t, strings.Repeat(strings.Repeat("x", 40)+"\n", 8)[:301])
}

// Lines of as many bytes as the limit allows, and of one or a few more.
func TestLimitOfBytesOfLines(t *testing.T) {
	line := strings.Repeat("A", 40)
	for _, n := range []int{299, 300, 301, 302, 303, 304, 330, 3000} {
		letters := base64.StdEncoding.EncodeToString(make([]byte, n))
		quoted := strings.Repeat("=00", n)
		plain := strings.Repeat(line+"\n", n)[:n]
		for _, width := range []int{1, 40, 41, 10000} {
			if n > 300 {
				expectNotDecoded(t, impl.CodeBase, cutEvery(letters, width)...)
			} else {
				expectDecoded(t, strings.Repeat("\x00", n), impl.CodeBase, cutEvery(letters, width)...)
			}
		}
		if n > 300 {
			expectNotDecoded(t, impl.CodeQuoted, quoted)
			expectNotDecoded(t, impl.CodeQuoted, strings.Repeat("x", n))
			expectNotDecoded(t, impl.CodeQuoted, strings.Repeat("x", n-1)+"=", "y")
			expectNotDecoded(t, impl.CodeQuoted, strings.Repeat("x", n-2), "y")
			expectNotDecoded(t, impl.CodeQuoted, make([]string, n+1)...)
			expectNotDecoded(t, impl.CodePlain, strings.Split(plain, "\n")...)
			expectNotDecoded(t, impl.CodePlain, make([]string, n+1)...)
		} else {
			expectDecoded(t, strings.Repeat("\x00", n), impl.CodeQuoted, quoted)
			expectDecoded(t, strings.Repeat("x", n), impl.CodeQuoted, strings.Repeat("x", n))
			expectDecoded(t, strings.Repeat("x", n-1)+"y", impl.CodeQuoted, strings.Repeat("x", n-1)+"=", "y")
			expectDecoded(t, strings.Repeat("x", n-2)+"\ny", impl.CodeQuoted, strings.Repeat("x", n-2), "y")
			expectDecoded(t, strings.Repeat("\n", n), impl.CodeQuoted, make([]string, n+1)...)
			expectDecoded(t, plain, impl.CodePlain, strings.Split(plain, "\n")...)
			expectDecoded(t, strings.Repeat("\n", n), impl.CodePlain, make([]string, n+1)...)
		}
	}
	// Lines that go on have no bytes of their own.
	expectDecoded(t, "x", impl.CodeQuoted, append(slices.Repeat([]string{"="}, 1000), "x")...)
	expectNotDecoded(t, impl.CodeBase, slices.Repeat([]string{line}, 11)...)
}

// Far more bytes than the limit, which no memory would hold together.
func TestLinesWithoutLimit(t *testing.T) {
	lines := slices.Repeat([]string{strings.Repeat("A", 1<<20)}, 1<<20)
	for code := range 3 {
		if got, ok := impl.DecodeBytes(lines, code); ok || got != "" {
			t.Errorf("DecodeBytes of many lines and %d = %q, %v", code, got, ok)
		}
	}
	lines[0] += "="
	if got, ok := impl.DecodeQuoted(lines); ok || got != "" {
		t.Errorf("DecodeQuoted of many lines = %q, %v", got, ok)
	}
	if got, ok := impl.DecodeBase(lines); ok || got != "" {
		t.Errorf("DecodeBase of many lines = %q, %v", got, ok)
	}
}

func TestOtherCodes(t *testing.T) {
	for _, code := range []int{math.MinInt, -1000, -2, -1, 3, 4, 256, 257, 258, 1 << 32, math.MaxInt} {
		for _, b := range []string{"", "a", "a\nb", "TQ==", "=3D", "\xff"} {
			expectNotCoded(t, b, code)
			expectNotDecoded(t, code, strings.Split(b, "\n")...)
		}
		expectNotDecoded(t, code)
	}
}

// Bytes of all kinds, of all lengths, are read back in all ways.
func TestBytesAreReadBack(t *testing.T) {
	kinds := []string{"", "ab =\n", "ab \n\xff", "a\n", "a ", "=\x00", " \n"}
	random := rand.New(rand.NewSource(5))
	for n := range 301 {
		for _, kind := range kinds {
			for range 5 {
				b := make([]byte, n)
				random.Read(b)
				for i := range b {
					if kind != "" {
						b[i] = kind[int(b[i])%len(kind)]
					}
				}
				expectAllWays(t, string(b))
			}
		}
	}
	for _, b := range stringsOf([]string{"a", " ", "=", "\n", "\xff"}, 5) {
		expectAllWays(t, b)
	}
}

// The best way is possible for all bytes, and its lines can be those of a mail.
func TestBestCodeIsPossible(t *testing.T) {
	random := rand.New(rand.NewSource(6))
	for n := range 301 {
		b := make([]byte, n)
		random.Read(b)
		code, ok := impl.BestCode(string(b))
		lines, coded := impl.EncodeBytes(string(b), code)
		if !ok || !coded || slices.ContainsFunc(lines, func(s string) bool { return !impl.TextValid(s) || len(s) > 40 }) {
			t.Errorf("EncodeBytes(%q, %d) = %q, %v", b, code, lines, coded)
		}
		expectDecoded(t, string(b), code, lines...)
	}
}

func TestCodesLeaveArguments(t *testing.T) {
	for code, lines := range [][]string{{"a", "", "b"}, {"a=", "=3D", "b"}, {"TWFu", "", "TQ=="}} {
		kept := slices.Clone(lines)
		impl.DecodeBytes(lines[:2], code)
		impl.DecodeBytes(lines, code)
		impl.DecodeBytes(lines, code+1)
		if !slices.Equal(lines, kept) {
			t.Errorf("DecodeBytes changed its argument to %q", lines)
		}
		b := strings.Repeat("a\n", 50)
		one, _ := impl.EncodeBytes(b, code)
		two, _ := impl.EncodeBytes(b, code)
		wanted := slices.Clone(two)
		for i := range one {
			one[i] = "x"
		}
		_ = append(one, "y")
		if !slices.Equal(two, wanted) {
			t.Errorf("results share memory: %q", two)
		}
	}
}
