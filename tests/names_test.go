package tests

import (
	"fmt"
	"math/rand"
	"regexp"
	"strings"
	"testing"

	"loop.example/mailwire/impl"
)

// codedForm is a coded word of any length, written by its form alone: hyphen,
// point, digits and letters have no digits that stand for them.
var codedForm = regexp.MustCompile(`\A=\?utf-8\?q\?((?:[A-Za-z0-9._-]|=[0189A-F][0-9A-F]|=2[1-9A-CF]|=3[A-F]|=40|=5[B-F]|=60|=7[B-F])+)\?=\z`)

// coded puts what stands for bytes between the ends of a coded word.
func coded(inner string) string {
	return "=?utf-8?q?" + inner + "?="
}

// standsFor is what stands for some bytes, by a table of all of them.
func standsFor(b string) string {
	inner := ""
	for _, c := range []byte(b) {
		switch {
		case strings.IndexByte("ABCDEFGHIJKLMNOPQRSTUVWXYZabcdefghijklmnopqrstuvwxyz0123456789-.", c) >= 0:
			inner += string(rune(c))
		case c == ' ':
			inner += "_"
		default:
			inner += fmt.Sprintf("=%02X", c)
		}
	}
	return inner
}

// readByForm is another way to read a coded word.
func readByForm(s string) (string, bool) {
	found := codedForm.FindStringSubmatch(s)
	if found == nil || len(s) > 40 {
		return "", false
	}
	pieces := strings.Split(strings.ReplaceAll(found[1], "_", " "), "=")
	b := pieces[0]
	for _, piece := range pieces[1:] {
		var c byte
		fmt.Sscanf(piece[:2], "%02X", &c)
		b += string([]byte{c}) + piece[2:]
	}
	return b, true
}

// encodeByCuts is another way to write a name: the longest coded word is found
// from the end of what is left.
func encodeByCuts(b string) (string, bool) {
	if len(b) > 120 {
		return "", false
	}
	needed := strings.Contains(b, "=?") || strings.Trim(b, " ") != b
	for _, c := range []byte(b) {
		needed = needed || c < ' ' || c > '~'
	}
	if !needed {
		return b, true
	}
	text := ""
	for b != "" {
		count := min(len(b), 28)
		for len(coded(standsFor(b[:count]))) > 40 {
			count--
		}
		text += " " + coded(standsFor(b[:count]))
		b = b[count:]
	}
	return text[1:], true
}

// decodeFromTheEnd is another way to read a name: the part behind the last
// space is read, and then what is before it.
func decodeFromTheEnd(s string) (string, bool) {
	name, length, before := "", len(s), false
	for {
		space := strings.LastIndexByte(s, ' ')
		b, isCoded := readByForm(s[space+1:])
		if !isCoded {
			b = s[space+1:]
		}
		if before && isCoded {
			name = strings.TrimPrefix(name, " ")
		}
		name = b + name
		if space < 0 {
			break
		}
		s, name, before = s[:space], " "+name, isCoded
	}
	if length > 600 || len(name) > 120 {
		return "", false
	}
	return name, true
}

// expectWord holds the coded word of bytes against what is wanted, and reads
// it back.
func expectWord(t *testing.T, b string, want string) {
	t.Helper()
	if got, ok := impl.CodeWord(b); !ok || got != want {
		t.Errorf("CodeWord(%q) = %q, %v, want %q", b, got, ok, want)
	}
	if got, ok := impl.ReadCodeWord(want); !ok || got != b {
		t.Errorf("ReadCodeWord(%q) = %q, %v, want %q", want, got, ok, b)
	}
}

func expectNoWord(t *testing.T, b string) {
	t.Helper()
	if got, ok := impl.CodeWord(b); ok || got != "" {
		t.Errorf("CodeWord(%q) = %q, %v, want none", b, got, ok)
	}
}

// expectNotRead holds a text that is no coded word against both readers: a
// name keeps such a text as it is.
func expectNotRead(t *testing.T, s string) {
	t.Helper()
	if got, ok := impl.ReadCodeWord(s); ok || got != "" {
		t.Errorf("ReadCodeWord(%q) = %q, %v, want none", s, got, ok)
	}
	if len(s) <= 120 && !strings.Contains(s, " ") {
		expectRead(t, s, s)
	}
}

// expectWritten holds the text of a name against what is wanted, and reads it
// back.
func expectWritten(t *testing.T, b string, want string) {
	t.Helper()
	if got, ok := impl.EncodeName(b); !ok || got != want {
		t.Errorf("EncodeName(%q) = %q, %v, want %q", b, got, ok, want)
	}
	if got := impl.NeedsCode(b); got != (b != want) {
		t.Errorf("NeedsCode(%q) = %v", b, got)
	}
	expectRead(t, want, b)
}

// expectRead holds the name of a text against what is wanted.
func expectRead(t *testing.T, s string, want string) {
	t.Helper()
	if got, ok := impl.DecodeName(s); !ok || got != want {
		t.Errorf("DecodeName(%q) = %q, %v, want %q", s, got, ok, want)
	}
}

func expectNoName(t *testing.T, s string) {
	t.Helper()
	if got, ok := impl.DecodeName(s); ok || got != "" {
		t.Errorf("DecodeName(%q) = %q, %v, want none", s, got, ok)
	}
}

// expectTooLongName holds more bytes than a name has.
func expectTooLongName(t *testing.T, b string) {
	t.Helper()
	if got, ok := impl.EncodeName(b); ok || got != "" {
		t.Errorf("EncodeName of %d bytes = %q, %v", len(b), got, ok)
	}
	if !impl.NeedsCode(b) {
		t.Errorf("NeedsCode of %d bytes is false", len(b))
	}
}

// expectNameAsByCuts holds a name against the other writer, and reads it back.
func expectNameAsByCuts(t *testing.T, b string) {
	t.Helper()
	want, _ := encodeByCuts(b)
	expectWritten(t, b, want)
}

// expectAsByCodedForm holds a text, as a word and as a name, against the other
// readers.
func expectAsByCodedForm(t *testing.T, s string) {
	t.Helper()
	want, wantOk := readByForm(s)
	if got, ok := impl.ReadCodeWord(s); ok != wantOk || got != want {
		t.Errorf("ReadCodeWord(%q) = %q, %v, want %q, %v", s, got, ok, want, wantOk)
	}
	want, wantOk = decodeFromTheEnd(s)
	if got, ok := impl.DecodeName(s); ok != wantOk || got != want {
		t.Errorf("DecodeName(%q) = %q, %v, want %q, %v", s, got, ok, want, wantOk)
	}
}

func TestLimitsOfNames(t *testing.T) {
	if impl.MaxCoded != 40 {
		t.Error("the limit of names is wrong")
	}
}

func TestNeedsCode(t *testing.T) {
	for _, b := range []string{
		"", "a", "Ann Lee", "a  b", "a?=b", "=", "?", "a=", "?a", "a= ?b", "= ?", "==", "?=", "??=", "=a?",
		"utf-8?q?a?=", "\"", "\\", "_", "=41", "~!~",
		strings.Repeat("~", 119), strings.Repeat("~", 120),
	} {
		if impl.NeedsCode(b) {
			t.Errorf("NeedsCode(%q) is true", b)
		}
	}
	for _, b := range []string{
		" ", "  ", " a", "a ", " a ", "  a", "a  ", "=?", "a=?", "=?a", "a=?b", "==??", "?=?", "a =? b",
		"=?utf-8?q?a?=", "=?UTF-8?B?YQ==?=", "=?x", "a\n", "\na", "a\tb", "\t", "\r", "\x00", "\x1f", "\x7f", "\x80", "\xff", "é",
		strings.Repeat("a", 121), strings.Repeat("a", 200), strings.Repeat("a", 201), strings.Repeat("a", 100000),
	} {
		if !impl.NeedsCode(b) {
			t.Errorf("NeedsCode(%q) is false", b)
		}
	}
}

func TestNeedsCodeOfEachByte(t *testing.T) {
	for c := range 256 {
		b := string([]byte{byte(c)})
		printed := c >= 32 && c <= 126
		for s, want := range map[string]bool{
			b:             !printed || c == ' ',
			b + "a":       !printed || c == ' ',
			"a" + b:       !printed || c == ' ',
			"a" + b + "a": !printed,
			"=" + b:       !printed || c == ' ' || c == '?',
			b + "?":       !printed || c == ' ' || c == '=',
		} {
			if got := impl.NeedsCode(s); got != want {
				t.Errorf("NeedsCode(%q) = %v", s, got)
			}
		}
	}
}

func TestCodeWord(t *testing.T) {
	for b, inner := range map[string]string{
		"Zo\xc3\xab":        "Zo=C3=AB",
		"a":                 "a",
		" ":                 "_",
		"  ":                "__",
		"_":                 "=5F",
		"=":                 "=3D",
		"?":                 "=3F",
		"=?":                "=3D=3F",
		"?=":                "=3F=3D",
		"Ann Lee":           "Ann_Lee",
		"a-b.c":             "a-b.c",
		"a=b":               "a=3Db",
		"=41":               "=3D41",
		"\x00\n\r\t":        "=00=0A=0D=09",
		"\xff\x80\x7f":      "=FF=80=7F",
		"\"\\/+":            "=22=5C=2F=2B",
		"=?utf-8?q?a?=":     "=3D=3Futf-8=3Fq=3Fa=3F=3D",
		"AZaz09-.":          "AZaz09-.",
		"@[`{/:":            "=40=5B=60=7B=2F=3A",
		"Ab.Cd-Ef Gh 01 23": "Ab.Cd-Ef_Gh_01_23",
	} {
		expectWord(t, b, coded(inner))
	}
	expectNoWord(t, "")
}

func TestEachByteOfAWord(t *testing.T) {
	for c := range 256 {
		b := string([]byte{byte(c)})
		for _, s := range []string{b, b + b, "a" + b, b + "a", " " + b + " ", "\xff" + b + "="} {
			expectWord(t, s, coded(standsFor(s)))
		}
		// All other forms in which the byte could be written.
		for _, inner := range []string{b, fmt.Sprintf("=%02X", c), fmt.Sprintf("=%02x", c)} {
			if standsFor(string([]byte{byte(c)})) != inner && inner != "_" {
				expectNotRead(t, coded(inner))
				expectNotRead(t, coded("a"+inner+"b"))
			}
		}
	}
}

func TestLengthOfWords(t *testing.T) {
	for _, unit := range []struct {
		b     string
		inner string
	}{
		{"a", "a"}, {" ", "_"}, {"-", "-"}, {"9", "9"}, {"\xc3", "=C3"}, {"_", "=5F"}, {"\x00", "=00"},
	} {
		for rest := range 4 {
			for count := range 30 {
				b := strings.Repeat(unit.b, count) + strings.Repeat("x", rest)
				word := coded(strings.Repeat(unit.inner, count) + strings.Repeat("x", rest))
				switch {
				case b == "":
					expectNoWord(t, b)
				case len(word) <= 40:
					expectWord(t, b, word)
				default:
					expectNoWord(t, b)
					expectNotRead(t, word)
				}
			}
		}
	}
	for length, want := range map[int]bool{27: true, 28: true, 29: false, 30: false, 1000000: false} {
		if got, ok := impl.CodeWord(strings.Repeat("a", length)); ok != want || ok && len(got) != length+12 {
			t.Errorf("CodeWord of %d letters = %q, %v", length, got, ok)
		}
	}
	expectNoWord(t, strings.Repeat("a", 26)+"=")
	expectWord(t, strings.Repeat("a", 25)+"=", coded(strings.Repeat("a", 25)+"=3D"))
	expectNoWord(t, "="+strings.Repeat("a", 26))
}

func TestReadCodeWordOfOtherText(t *testing.T) {
	for _, s := range []string{
		"", " ", "a", "=", "?", "=?", "?=", "=?=", "=?utf-8?q?", "=?utf-8?q?=", "=?utf-8?q??=", "=?utf-8?q?a", "=?utf-8?q?a?", "=?utf-8?q?a=",
		"utf-8?q?a?=", "?utf-8?q?a?=", "=utf-8?q?a?=", "=?utf-8q?a?=", "=?utf-8?qa?=", "=?utf8?q?a?=", "=??q?a?=", "=?utf-8??a?=",
		"=?UTF-8?q?a?=", "=?utf-8?Q?a?=", "=?Utf-8?q?a?=", "=?utf-8?b?YQ==?=", "=?us-ascii?q?a?=", "=?utf-8*en?q?a?=",
		coded("=61"), coded("=41"), coded("=30"), coded("=2D"), coded("=2E"), coded("=20"), coded("=c3"), coded("=C3=aB"), coded("=cF"), coded("=Cf"),
		coded("="), coded("=4"), coded("=C"), coded("=G0"), coded("=0G"), coded("= 0"), coded("=C 3"), coded("=="), coded("===C3"), coded("a="), coded("a=4"),
		coded("=+1"), coded("=-1"), coded("=C3="), coded("=C3=C"), coded("=?="), coded("a?=b"), coded("?"), coded("a?b"), coded("a?"), coded("?a"),
		coded("a b"), coded(" "), coded(" a"), coded("a "), coded("a\n"), coded("\n"), coded("\t"), coded("a\x00"), coded("\xc3\xab"), coded("!"), coded("a,b"),
		" " + coded("a"), coded("a") + " ", coded("a") + "b", "b" + coded("a"), coded("a") + "=", coded("a") + "\n", "\n" + coded("a"), "=" + coded("a"),
		coded("a") + coded("b"), coded("a") + " " + coded("b"), coded(coded("a")), "\"" + coded("a") + "\"", "(" + coded("a") + ")",
		coded(strings.Repeat("a", 29)), coded(strings.Repeat("=C3", 9) + "aa"), coded(strings.Repeat("=C3", 10)), coded(strings.Repeat("_", 29)),
		coded(strings.Repeat("a", 100000)), strings.Repeat("=?utf-8?q?", 100000),
	} {
		expectNotRead(t, s)
	}
}

func TestWordsWithOneSlip(t *testing.T) {
	for _, word := range []string{coded("Zo=C3=AB"), coded("a_-=5F."), coded("=3D"), coded(strings.Repeat("=C3", 9) + "a")} {
		for at := range len(word) + 1 {
			for c := range 256 {
				b := string([]byte{byte(c)})
				expectAsByCodedForm(t, word[:at]+b+word[at:])
				if at < len(word) {
					expectAsByCodedForm(t, word[:at]+b+word[at+1:])
				}
			}
			expectAsByCodedForm(t, word[:at])
			expectAsByCodedForm(t, word[at:])
			expectAsByCodedForm(t, strings.ToUpper(word[:at])+word[at:])
			expectAsByCodedForm(t, word[:at]+strings.ToLower(word[at:]))
		}
	}
}

func TestWordsByForm(t *testing.T) {
	pieces := []string{"=?utf-8?q?", "?=", "=", "?", "_", "-", "a", "C3", "=C3", "=61", " "}
	for _, inner := range stringsOf(pieces, 4) {
		expectAsByCodedForm(t, coded(inner))
		expectAsByCodedForm(t, inner)
	}
	for _, inner := range stringsOver("=?_.-09Afg ", 3) {
		expectAsByCodedForm(t, coded(inner))
	}
}

func TestNamesWithoutCode(t *testing.T) {
	for _, b := range []string{
		"", "a", "Ann Lee", "a  b", "a?=b", "_", "=41", "=C3", "a_b", "\"Lee, Ann\"", "a\\", "?=", "= ?", "utf-8?q?a?=",
		strings.Repeat("a", 119), strings.Repeat("a", 120), strings.Repeat("a b", 40),
	} {
		expectWritten(t, b, b)
	}
}

func TestNamesWithCode(t *testing.T) {
	for b, want := range map[string]string{
		"Zo\xc3\xab":           coded("Zo=C3=AB"),
		"Zo\xc3\xab van Lee":   coded("Zo=C3=AB_van_Lee"),
		" ":                    coded("_"),
		" a":                   coded("_a"),
		"a ":                   coded("a_"),
		"a=?b":                 coded("a=3D=3Fb"),
		"=?":                   coded("=3D=3F"),
		"a\nb":                 coded("a=0Ab"),
		"=?utf-8?q?a?=":        coded("=3D=3Futf-8=3Fq=3Fa=3F=3D"),
		"=?utf-8?q?=61?=":      coded("=3D=3Futf-8=3Fq=3F=3D61=3F") + " " + coded("=3D"),
		"=?UTF-8?B?YQ==?=":     coded("=3D=3FUTF-8=3FB=3FYQ=3D=3D") + " " + coded("=3F=3D"),
		"a =?utf-8?q?b?=":      coded("a_=3D=3Futf-8=3Fq=3Fb=3F=3D"),
		"\x00":                 coded("=00"),
		strings.Repeat(" ", 5): coded("_____"),
	} {
		expectWritten(t, b, want)
	}
}

func TestGreedyWords(t *testing.T) {
	x := strings.Repeat("x", 27)
	for b, want := range map[string]string{
		" " + x:                  coded("_" + x),
		" " + x + "y":            coded("_"+x) + " " + coded("y"),
		" " + x + " ":            coded("_"+x) + " " + coded("_"),
		" " + x + "\xff":         coded("_"+x) + " " + coded("=FF"),
		"\xff" + x[2:] + "y":     coded("=FF"+x[2:]) + " " + coded("y"),
		"\xff" + x[2:] + "\xff":  coded("=FF"+x[2:]) + " " + coded("=FF"),
		"\xff" + x[3:] + "\xff":  coded("=FF"+x[3:]) + " " + coded("=FF"),
		"\xff" + x[4:] + "\xff":  coded("=FF"+x[4:]) + " " + coded("=FF"),
		"\xff" + x[5:] + "\xff":  coded("=FF" + x[5:] + "=FF"),
		"\xff" + x[4:] + "y\xff": coded("=FF"+x[4:]+"y") + " " + coded("=FF"),
		// A character of two bytes is taken apart where the word is full.
		strings.Repeat("\xc3\xab", 5):   coded(strings.Repeat("=C3=AB", 4)+"=C3") + " " + coded("=AB"),
		strings.Repeat("\xff", 9):       coded(strings.Repeat("=FF", 9)),
		strings.Repeat("\xff", 9) + "a": coded(strings.Repeat("=FF", 9) + "a"),
		strings.Repeat("\xff", 18):      coded(strings.Repeat("=FF", 9)) + " " + coded(strings.Repeat("=FF", 9)),
		strings.Repeat(" ", 56):         coded(strings.Repeat("_", 28)) + " " + coded(strings.Repeat("_", 28)),
		strings.Repeat(" ", 57):         coded(strings.Repeat("_", 28)) + " " + coded(strings.Repeat("_", 28)) + " " + coded("_"),
	} {
		expectWritten(t, b, want)
	}
}

func TestDecodeName(t *testing.T) {
	for s, want := range map[string]string{
		"":                                   "",
		" ":                                  " ",
		"  ":                                 "  ",
		" a ":                                " a ",
		"a\nb\xff\x00":                       "a\nb\xff\x00",
		coded("a"):                           "a",
		coded("a") + " " + coded("b"):        "ab",
		coded("a") + "  " + coded("b"):       "a  b",
		coded("a") + "   " + coded("b"):      "a   b",
		coded("a") + " x " + coded("b"):      "a x b",
		coded("a") + " " + coded("_") + " b": "a  b",
		coded("a_") + " " + coded("_b"):      "a  b",
		" " + coded("a"):                     " a",
		"  " + coded("a"):                    "  a",
		coded("a") + " ":                     "a ",
		coded("a") + "  ":                    "a  ",
		" " + coded("a") + " " + coded("b") + " ":        " ab ",
		"x " + coded("a"):                                "x a",
		coded("a") + " x":                                "a x",
		"x" + coded("a"):                                 "x" + coded("a"),
		coded("a") + coded("b"):                          coded("a") + coded("b"),
		coded("a") + "\n" + coded("b"):                   coded("a") + "\n" + coded("b"),
		coded("a") + "\t" + coded("b"):                   coded("a") + "\t" + coded("b"),
		coded("a b"):                                     coded("a b"),
		coded("=61") + " " + coded("b"):                  coded("=61") + " b",
		coded("a") + " " + coded("=62"):                  "a " + coded("=62"),
		coded("=61") + " " + coded("=62"):                coded("=61") + " " + coded("=62"),
		coded("") + " " + coded("b"):                     coded("") + " b",
		coded("a") + " " + coded("b") + " " + coded("c"): "abc",
		// What a word stands for is not read once more.
		coded("=3D=3Futf-8=3Fq=3Fa=3F=3D"):                          "=?utf-8?q?a?=",
		coded("_") + " " + coded("_"):                               "  ",
		coded("=C3") + " " + coded("=AB"):                           "\xc3\xab",
		"=?UTF-8?q?a?= " + coded("b"):                               "=?UTF-8?q?a?= b",
		"To " + coded("Zo=C3=AB") + " " + coded("_x") + " and  you": "To Zo\xc3\xab x and  you",
	} {
		expectRead(t, s, want)
	}
}

func TestNamesOfParts(t *testing.T) {
	pieces := []string{" ", " ", "a", coded("a"), coded("_"), coded("=61"), coded("=3D=3F")}
	for number := range 6 {
		for _, s := range stringsOf(pieces[1:], number) {
			expectAsByCodedForm(t, s)
		}
	}
}

func TestLimitOfNames(t *testing.T) {
	for _, unit := range []string{"a", "\xff", " ", "=?", "\xc3\xab", "a b", "\x00a"} {
		for length := 110; length <= 121; length++ {
			b := strings.Repeat(unit, 121)[:length]
			if length > 120 {
				expectTooLongName(t, b)
			} else {
				expectNameAsByCuts(t, b)
			}
		}
	}
	for _, length := range []int{121, 122, 200, 201, 600, 601, 1000000} {
		expectTooLongName(t, strings.Repeat("a", length))
		expectTooLongName(t, strings.Repeat("\xff", length))
	}
}

func TestLimitOfNamesThatAreRead(t *testing.T) {
	for length, want := range map[int]bool{119: true, 120: true, 121: false, 600: false} {
		for _, b := range []string{strings.Repeat("a", length), strings.Repeat("\xff", length), strings.Repeat(" ", length), strings.Repeat("=?", 300)[:length]} {
			if want {
				expectRead(t, b, b)
			} else {
				expectNoName(t, b)
			}
		}
	}
	full := coded(strings.Repeat("x", 28))
	four := strings.Join([]string{full, full, full, full}, " ")
	b := strings.Repeat("x", 112)
	expectRead(t, four+" "+coded("1234567"), b+"1234567")
	expectRead(t, four+" "+coded("12345678"), b+"12345678")
	expectNoName(t, four+" "+coded("123456789"))
	expectRead(t, four+" 123456", b+" 123456")
	expectRead(t, four+" 1234567", b+" 1234567")
	expectNoName(t, four+" 12345678")
	expectRead(t, "1234567 "+four, "1234567 "+b)
	expectNoName(t, "12345678 "+four)
	expectRead(t, four+strings.Repeat(" ", 8), b+strings.Repeat(" ", 8))
	expectNoName(t, four+strings.Repeat(" ", 9))
	expectRead(t, four+" "+coded("=FF=FF_")+" 1234", b+"\xff\xff  1234")
	expectNoName(t, four+" "+coded("=FF=FF_")+" 12345")
}

func TestLimitOfTextsOfNames(t *testing.T) {
	// Each word of one byte has 15 bytes, and a space behind it.
	words := strings.Repeat(coded("=FF")+" ", 37)
	b := strings.Repeat("\xff", 37)
	for s, want := range map[string]string{
		words + "123456":                              b + " 123456",
		words + "1234567":                             b + " 1234567",
		words + "12345678":                            b + " 12345678",
		words[:576] + coded("=C3=C3ab"):               b[:36] + "\xc3\xc3ab",
		words[:576] + coded("=C3=C3=C3ab"):            b[:36] + "\xc3\xc3\xc3ab",
		words[:576] + coded("=C3=C3=C3abc"):           b[:36] + "\xc3\xc3\xc3abc",
		strings.Repeat(" ", 9) + words[:len(words)-1]: strings.Repeat(" ", 9) + b,
	} {
		if len(s) > 600 {
			t.Fatalf("%q has %d bytes", s, len(s))
		}
		expectRead(t, s, want)
	}
	for _, s := range []string{words + "123456789", words + "1234567890", words[:576] + coded("=C3=C3=C3abcd"), words + strings.Repeat(" ", 9)} {
		expectNoName(t, s)
	}
	for _, s := range []string{strings.Repeat("a", 601), strings.Repeat(" ", 601), strings.Repeat(coded("a")+" ", 100000), strings.Repeat("=?", 1000000)} {
		expectNoName(t, s)
	}
}

func TestLengthsNearTheLimitOfTexts(t *testing.T) {
	words := strings.Repeat(coded("=FF")+" ", 37)
	for length, want := range map[int]bool{598: true, 599: true, 600: true, 601: false, 602: false} {
		s := words + strings.Repeat("a", length-len(words))
		if name, ok := impl.DecodeName(s); ok != want || ok && len(name) != length-len(words)+38 {
			t.Errorf("DecodeName of %d bytes = %q, %v", length, name, ok)
		}
	}
}

func TestShortNamesAreReadBack(t *testing.T) {
	expectNameAsByCuts(t, "")
	for length := 1; length <= 4; length++ {
		for _, b := range stringsOver("=?_ aq\n\xff", length) {
			expectNameAsByCuts(t, b)
		}
	}
	for first := range 256 {
		for second := range 256 {
			expectNameAsByCuts(t, string([]byte{byte(first), byte(second)}))
		}
	}
	pieces := []string{"=?utf-8?q?", "?=", "=", "?", "_", "a", "=C3", " ", "\xc3"}
	for _, b := range stringsOf(pieces, 4) {
		expectNameAsByCuts(t, b)
	}
}

func TestLongNamesAreReadBack(t *testing.T) {
	random := rand.New(rand.NewSource(6))
	for _, alphabet := range []string{"", "ab", "a\xff", " a", "=?", "=? a\xc3", "_-.=\n"} {
		for range 1000 {
			b := make([]byte, random.Intn(121))
			for i := range b {
				b[i] = byte(random.Intn(256))
				if alphabet != "" {
					b[i] = alphabet[random.Intn(len(alphabet))]
				}
			}
			expectNameAsByCuts(t, string(b))
		}
	}
}

func TestNamesWrittenAgain(t *testing.T) {
	for _, b := range []string{"\xff", " a ", "=?", "a\nb", coded("a"), coded("a") + " " + coded("b")} {
		for range 2 {
			s, ok := impl.EncodeName(b)
			if !ok {
				t.Errorf("EncodeName(%q) is false", b)
			}
			expectRead(t, s, b)
			// What is written is a name too, which looks like a coded word.
			b = s
		}
	}
}

func TestWordsOfNamesAreFull(t *testing.T) {
	random := rand.New(rand.NewSource(66))
	for range 3000 {
		left := "\xff" + strings.Repeat("a\xff ", 40)[:random.Intn(119)]
		s, _ := impl.EncodeName(left)
		for _, word := range strings.Split(s, " ") {
			b, ok := impl.ReadCodeWord(word)
			if !ok || !strings.HasPrefix(left, b) {
				t.Fatalf("%q is no word of %q", word, left)
			}
			if len(b) < len(left) {
				expectNoWord(t, left[:len(b)+1])
			}
			left = left[len(b):]
		}
		if left != "" {
			t.Fatalf("%q is left", left)
		}
	}
}
