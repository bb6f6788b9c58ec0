package tests

import (
	"slices"
	"strings"
	"testing"

	"loop.example/mailwire/impl"
)

// atomBytes is written out here, so that the program's own table is held
// against it.
const atomBytes = "ABCDEFGHIJKLMNOPQRSTUVWXYZabcdefghijklmnopqrstuvwxyz0123456789!#$%&'*+-/=?^_`{|}~"

// stringsOver returns all strings over an alphabet up to a length.
func stringsOver(alphabet string, length int) []string {
	return stringsOf(strings.Split(alphabet, ""), length)
}

// stringsOf returns all strings of up to a number of pieces.
func stringsOf(pieces []string, number int) []string {
	all := []string{""}
	last := all
	for range number {
		var next []string
		for _, s := range last {
			for _, piece := range pieces {
				next = append(next, s+piece)
			}
		}
		all = append(all, next...)
		last = next
	}
	return all
}

func expectWords(t *testing.T, s string, want []string) {
	t.Helper()
	if got, ok := impl.SplitWords(s); !ok || !slices.Equal(got, want) {
		t.Errorf("SplitWords(%q) = %q, %v, want %q", s, got, ok, want)
	}
}

func expectNoWords(t *testing.T, s string) {
	t.Helper()
	if got, ok := impl.SplitWords(s); ok || len(got) != 0 {
		t.Errorf("SplitWords(%q) = %q, %v, want none", s, got, ok)
	}
}

func TestLimitsOfWords(t *testing.T) {
	if impl.MaxText != 200 || impl.MaxAtom != 40 {
		t.Errorf("MaxText = %d, MaxAtom = %d", impl.MaxText, impl.MaxAtom)
	}
}

func TestTextHasPrintedBytes(t *testing.T) {
	for c := range 256 {
		want := c >= 32 && c <= 126
		for _, s := range []string{string([]byte{byte(c)}), "ab" + string([]byte{byte(c)}), string([]byte{byte(c)}) + " z"} {
			if got := impl.TextValid(s); got != want {
				t.Errorf("TextValid(%q) = %v", s, got)
			}
		}
	}
	for _, s := range []string{"Zo\u00eb", "a\xff", "\x00", "a\r\nb"} {
		if impl.TextValid(s) {
			t.Errorf("TextValid(%q)", s)
		}
	}
}

func TestTextLength(t *testing.T) {
	for n, want := range map[int]bool{0: true, 1: true, 199: true, 200: true, 201: false, 5000: false} {
		for _, c := range []string{"a", " ", "\"", "."} {
			if got := impl.TextValid(strings.Repeat(c, n)); got != want {
				t.Errorf("TextValid of %d times %q = %v", n, c, got)
			}
		}
	}
}

func TestAtomBytes(t *testing.T) {
	for c := range 256 {
		s := string([]byte{byte(c)})
		want := strings.Contains(atomBytes, s)
		for _, atom := range []string{s, "a" + s, s + "a", "a" + s + "a"} {
			if got := impl.AtomValid(atom); got != want {
				t.Errorf("AtomValid(%q) = %v", atom, got)
			}
		}
	}
	if impl.AtomValid("Zo\u00eb") {
		t.Error("a letter of more than one byte is taken for an atom")
	}
}

func TestAtomLength(t *testing.T) {
	for n, want := range map[int]bool{0: false, 1: true, 39: true, 40: true, 41: false, 200: false} {
		if got := impl.AtomValid(strings.Repeat("x", n)); got != want {
			t.Errorf("AtomValid of %d bytes = %v", n, got)
		}
	}
}

func TestQuoteWord(t *testing.T) {
	for text, want := range map[string]string{
		"":                       `""`,
		" ":                      `" "`,
		"Ann":                    `Ann`,
		atomBytes[:40]:           atomBytes[:40],
		atomBytes[40:]:           `"` + atomBytes[40:] + `"`,
		"van Lee":                `"van Lee"`,
		"a.b":                    `"a.b"`,
		"a,b":                    `"a,b"`,
		"<a@b>":                  `"<a@b>"`,
		`"`:                      `"\""`,
		`\`:                      `"\\"`,
		`\"`:                     `"\\\""`,
		`say "hi"`:               `"say \"hi\""`,
		strings.Repeat("x", 39):  strings.Repeat("x", 39),
		strings.Repeat("x", 40):  strings.Repeat("x", 40),
		strings.Repeat("x", 41):  `"` + strings.Repeat("x", 41) + `"`,
		strings.Repeat("x", 199): `"` + strings.Repeat("x", 199) + `"`,
		strings.Repeat("x", 200): `"` + strings.Repeat("x", 200) + `"`,
		strings.Repeat(`\`, 200): `"` + strings.Repeat(`\`, 400) + `"`,
		strings.Repeat(`"`, 200): `"` + strings.Repeat(`\"`, 200) + `"`,
	} {
		if got := impl.QuoteWord(text); got != want {
			t.Errorf("QuoteWord(%q) = %q, want %q", text, got, want)
		}
		if got, ok := impl.UnquoteWord(want); !ok || got != text {
			t.Errorf("UnquoteWord(%q) = %q, %v, want %q", want, got, ok, text)
		}
	}
}

func TestQuoteWordOfNoText(t *testing.T) {
	for _, s := range []string{"\x1f", "\x7f", "a\n", "Zo\u00eb", "\xff", strings.Repeat("x", 201), strings.Repeat(" ", 201)} {
		if got := impl.QuoteWord(s); got != "" {
			t.Errorf("QuoteWord(%q) = %q", s, got)
		}
	}
}

func TestQuoteWordOfEachByte(t *testing.T) {
	for c := range 256 {
		text := "a " + string([]byte{byte(c)})
		got, ok := impl.UnquoteWord(impl.QuoteWord(text))
		if printed := c >= 32 && c <= 126; ok != printed || printed && got != text {
			t.Errorf("UnquoteWord of the word of %q = %q, %v", text, got, ok)
		}
	}
}

func TestUnquoteWordOfNoWord(t *testing.T) {
	for _, s := range []string{
		"", " ", "a b", " a", "a ", "a.b", "a,b", `\`, `a"`, `a\b`, "\x00", "Zo\u00eb",
		`"`, `"a`, `"a b`, `"\"`, `"a b\"`, `"a b\`, `a b"`, // a quote without an end
		`"ann"`, `"a"`, `"` + strings.Repeat("x", 40) + `"`, // needs no quotes
		`"\a b"`, `"a\ b"`, `"a\.b"`, // needs no backslash
		`"a b"x`, `"a b" `, ` "a b"`, `"a b""`, `"a b""c d"`, `"""`, `""""`, // more than one word
		"\"a\tb\"", "\"a \n\"", "\"\x7f\"", "\"Zo\u00eb\"", "\"\\\x1f\"", // no text in quotes
		strings.Repeat("x", 41),
		`"` + strings.Repeat("x", 201) + `"`,
		`"` + strings.Repeat(`\\`, 201) + `"`,
		strings.Repeat(`"`, 100000),
	} {
		if got, ok := impl.UnquoteWord(s); ok || got != "" {
			t.Errorf("UnquoteWord(%q) = %q, %v, want none", s, got, ok)
		}
	}
}

// A string is a word exactly if some text has it as its word, and no two
// texts have the same one.
func TestWordsHaveOneForm(t *testing.T) {
	const length = 6
	texts := map[string]string{}
	for _, text := range stringsOver("a .\"\\", length) {
		word := impl.QuoteWord(text)
		if other, found := texts[word]; found {
			t.Errorf("%q and %q have the word %q", text, other, word)
		}
		texts[word] = text
	}
	for _, s := range stringsOver("a .\"\\\n", length) {
		want, found := texts[s]
		if got, ok := impl.UnquoteWord(s); ok != found || got != want {
			t.Errorf("UnquoteWord(%q) = %q, %v, want %q, %v", s, got, ok, want, found)
		}
	}
}

func TestSplitWords(t *testing.T) {
	expectWords(t, "", nil)
	expectWords(t, "   ", nil)
	expectWords(t, "Ann", []string{"Ann"})
	expectWords(t, "  Ann   van  Lee ", []string{"Ann", "van", "Lee"})
	expectWords(t, `Ann "van Lee"`, []string{"Ann", "van Lee"})
	expectWords(t, `"Ann" Lee`, []string{"Ann", "Lee"})
	expectWords(t, `""`, []string{""})
	expectWords(t, ` "" "" `, []string{"", ""})
	expectWords(t, `" a  b "`, []string{" a  b "})
	expectWords(t, `"\a\ \"\\"`, []string{`a "\`})
	expectWords(t, `"a,b.c@d<e>"`, []string{"a,b.c@d<e>"})
	expectWords(t, atomBytes, []string{atomBytes})
	for n := 39; n <= 41; n++ {
		atom := strings.Repeat("x", n)
		expectWords(t, atom+" y", []string{atom, "y"})
	}
	for n := 199; n <= 200; n++ {
		expectWords(t, strings.Repeat("x", n), []string{strings.Repeat("x", n)})
		expectWords(t, strings.Repeat(" ", n), nil)
		expectWords(t, `"`+strings.Repeat(".", n-2)+`"`, []string{strings.Repeat(".", n-2)})
	}
}

func TestSplitWordsOfOtherText(t *testing.T) {
	for _, s := range []string{
		"a\n", "\t", "Zo\u00eb", "\"\x7f\"", "\"\\\n\"", // no text
		strings.Repeat("x", 201), strings.Repeat(" ", 201), `"` + strings.Repeat("x", 199) + `"`,
		`"`, `"a`, `a "`, `a "b`, `"a\"`, `"a\`, `"\`, `"a" "`, // no end
		",", "a,b", "a, b", "a ,b", "a.b", ".", "a@b", "<a>", "a \\b", "a\\", `\"a"`, "(a)", "a;", "a:", "[a]", // something else
		`a"b"`, `"a"b`, `"a""b"`, `""""`, `"a"\`, `"a",`, `a""`, `""a`, // no space between
	} {
		expectNoWords(t, s)
	}
	for c := range 127 {
		s := string([]byte{byte(c)})
		if c != ' ' && !strings.Contains(atomBytes, s) {
			expectNoWords(t, "a "+s+" b")
		}
	}
}

func TestJoinWords(t *testing.T) {
	for want, list := range map[string][]string{
		``:                         nil,
		`""`:                       {""},
		`"" ""`:                    {"", ""},
		`Ann`:                      {"Ann"},
		`Ann "van Lee"`:            {"Ann", "van Lee"},
		`"say \"hi\"" "\\" "a\\b"`: {`say "hi"`, `\`, `a\b`},
		`" " a " "`:                {" ", "a", " "},
		strings.Repeat("x", 40) + ` "` + strings.Repeat("x", 41) + `"`: {strings.Repeat("x", 40), strings.Repeat("x", 41)},
	} {
		if got := impl.JoinWords(list); got != want {
			t.Errorf("JoinWords(%q) = %q, want %q", list, got, want)
		}
	}
}

func TestJoinWordsOfNoText(t *testing.T) {
	long := strings.Repeat("x y", 50)
	for _, list := range [][]string{
		{"\n"}, {"a", "\x7f"}, {"a", "Zo\u00eb", "b"}, {strings.Repeat("x", 201)},
		{long, long, "\n"}, {"\n", long, long},
	} {
		if got := impl.JoinWords(list); got != "" {
			t.Errorf("JoinWords(%q) = %q", list, got)
		}
	}
}

// The parts of a list are chosen so that the line has exactly the bytes of its
// limit, one less, or one more.
func TestJoinWordsLength(t *testing.T) {
	atoms := slices.Repeat([]string{strings.Repeat("x", 40)}, 4)
	for length, lists := range map[int][][]string{
		199: {append(slices.Clone(atoms), strings.Repeat("y", 35)), slices.Repeat([]string{"a"}, 100), {strings.Repeat(".", 197)}},
		200: {append(slices.Clone(atoms), strings.Repeat("y", 36)), {strings.Repeat(".", 198)}, {strings.Repeat(`\`, 99)}},
		201: {append(slices.Clone(atoms), strings.Repeat("y", 37)), slices.Repeat([]string{"a"}, 101), {strings.Repeat(".", 199)}},
		202: {{strings.Repeat(".", 200)}, {strings.Repeat(`"`, 100)}},
	} {
		for _, list := range lists {
			got := impl.JoinWords(list)
			if length > 200 && got != "" || length <= 200 && len(got) != length {
				t.Errorf("JoinWords(%q) = %q, want %d bytes, or none over 200", list, got, length)
			}
		}
	}
}

func TestJoinedWordsAreReadBack(t *testing.T) {
	texts := stringsOver("a .\"\\", 3)
	for i, text := range texts {
		list := []string{text, texts[len(texts)-1-i], "", text}
		line := impl.JoinWords(list)
		expectWords(t, line, list)
		expectWords(t, "  "+line+" ", list)
	}
}

// What is read in a lenient way has one form in which it is written.
func TestSplitWordsAreWrittenInOneForm(t *testing.T) {
	for _, s := range stringsOver("a .\"\\", 6) {
		list, ok := impl.SplitWords(s)
		if want, found := readLeniently(s); ok != found || !slices.Equal(list, want) {
			t.Errorf("SplitWords(%q) = %q, %v, want %q, %v", s, list, ok, want, found)
		}
		if ok {
			expectWords(t, impl.JoinWords(list), list)
		}
	}
}

// readLeniently is another way to read words: a machine that takes one byte
// after the other.
func readLeniently(s string) ([]string, bool) {
	const between, inAtom, inQuotes, escaped, behind = 0, 1, 2, 3, 4
	state := between
	var list []string
	word := ""
	for i := range len(s) {
		c := s[i : i+1]
		switch {
		case state == inQuotes && c == `\`:
			state = escaped
		case state == inQuotes && c == `"`:
			state = behind
			list = append(list, word)
		case state == inQuotes || state == escaped:
			state = inQuotes
			word += c
		case c == " ":
			if state == inAtom {
				list = append(list, word)
			}
			state = between
			word = ""
		case state == between && c == `"`:
			state = inQuotes
		case state != behind && strings.Contains(atomBytes, c):
			state = inAtom
			word += c
		default:
			return nil, false
		}
	}
	if state == inQuotes || state == escaped {
		return nil, false
	}
	if state == inAtom {
		list = append(list, word)
	}
	return list, true
}

func TestLowerText(t *testing.T) {
	const capitals, small = "ABCDEFGHIJKLMNOPQRSTUVWXYZ", "abcdefghijklmnopqrstuvwxyz"
	for c := range 256 {
		s := string([]byte{byte(c)})
		want := s
		if i := strings.Index(capitals, s); i >= 0 {
			want = small[i : i+1]
		}
		if got := impl.LowerText(s + "Q" + s); got != want+"q"+want {
			t.Errorf("LowerText(%q) = %q", s+"Q"+s, got)
		}
	}
	long := strings.Repeat("Ab\xc9\n", 1000)
	if got := impl.LowerText(long); got != strings.Repeat("ab\xc9\n", 1000) {
		t.Error("LowerText of a long string is wrong")
	}
	for _, s := range []string{"", "\u00c9\u0130\u212a", "@[`{"} {
		if got := impl.LowerText(s); got != s {
			t.Errorf("LowerText(%q) = %q", s, got)
		}
	}
}

func TestSameText(t *testing.T) {
	for _, pair := range [][2]string{{"", ""}, {"From", "fROM"}, {"a b", "A B"}, {"\xc9\n", "\xc9\n"}, {strings.Repeat("x", 300), strings.Repeat("X", 300)}} {
		if !impl.SameText(pair[0], pair[1]) || !impl.SameText(pair[1], pair[0]) {
			t.Errorf("SameText(%q, %q) = false", pair[0], pair[1])
		}
	}
	for _, pair := range [][2]string{{"", " "}, {"a", "b"}, {"a", "aa"}, {"@", "`"}, {"[", "{"}, {"\xc9", "\xe9"}, {"K", "\u212a"}, {"a", "a\x00"}} {
		if impl.SameText(pair[0], pair[1]) || impl.SameText(pair[1], pair[0]) {
			t.Errorf("SameText(%q, %q) = true", pair[0], pair[1])
		}
	}
}

func TestWordsLeaveArguments(t *testing.T) {
	list := []string{"Ann", "van Lee", "\n", "b"}
	impl.JoinWords(list[:2])
	impl.JoinWords(list)
	if !slices.Equal(list, []string{"Ann", "van Lee", "\n", "b"}) {
		t.Errorf("JoinWords changed its argument to %q", list)
	}
	one, _ := impl.SplitWords("a b")
	two, _ := impl.SplitWords("a b")
	one[0] = "x"
	_ = append(one, "y")
	if !slices.Equal(two, []string{"a", "b"}) {
		t.Errorf("results share memory: %q", two)
	}
}
