package tests

import (
	"regexp"
	"slices"
	"strings"
	"testing"

	"loop.example/mailwire/impl"
)

// labelBytes is written out here, as atomBytes is.
const labelBytes = "abcdefghijklmnopqrstuvwxyz0123456789-"

// boxed returns an address without a name.
func boxed(local string, domain string) impl.Address {
	return impl.Address{Local: local, Domain: domain}
}

// named returns an address at ann@x.org.
func named(name string) impl.Address {
	return impl.Address{Name: name, Local: "ann", Domain: "x.org"}
}

// sized returns an address with a text of a length up to 71.
func sized(length int) impl.Address {
	local := min(length-2, 30)
	return boxed(strings.Repeat("l", local), strings.Repeat("d", length-1-local))
}

// expectFormat holds the text of an address against what is wanted, and reads
// it back; no text is wanted for an address that is not valid.
func expectFormat(t *testing.T, a impl.Address, want string) {
	t.Helper()
	if got := impl.AddressValid(a); got != (want != "") {
		t.Errorf("AddressValid(%q) = %v", a, got)
	}
	if got := impl.FormatAddress(a); got != want {
		t.Errorf("FormatAddress(%q) = %q, want %q", a, got, want)
	}
	if want != "" {
		expectAddress(t, want, a)
	}
}

func expectAddress(t *testing.T, s string, want impl.Address) {
	t.Helper()
	if got, ok := impl.ParseAddress(s); !ok || got != want {
		t.Errorf("ParseAddress(%q) = %q, %v, want %q", s, got, ok, want)
	}
}

func expectNoAddress(t *testing.T, s string) {
	t.Helper()
	if got, ok := impl.ParseAddress(s); ok || got != (impl.Address{}) {
		t.Errorf("ParseAddress(%q) = %q, %v, want none", s, got, ok)
	}
}

func expectList(t *testing.T, s string, want ...impl.Address) {
	t.Helper()
	if got, ok := impl.ParseList(s); !ok || !slices.Equal(got, want) {
		t.Errorf("ParseList(%q) = %q, %v, want %q", s, got, ok, want)
	}
}

func expectNoList(t *testing.T, s string) {
	t.Helper()
	if got, ok := impl.ParseList(s); ok || len(got) != 0 {
		t.Errorf("ParseList(%q) = %q, %v, want none", s, got, ok)
	}
}

func TestLimitsOfAddresses(t *testing.T) {
	if impl.MaxLocal != 30 || impl.MaxDomain != 40 || impl.MaxList != 10 {
		t.Errorf("MaxLocal = %d, MaxDomain = %d, MaxList = %d", impl.MaxLocal, impl.MaxDomain, impl.MaxList)
	}
}

func TestBytesOfMailboxes(t *testing.T) {
	for c := range 256 {
		s := string([]byte{byte(c)})
		for _, local := range []string{s, s + "a", "a" + s, "a.b" + s + "c"} {
			want := strings.Contains(atomBytes, s) || s == "." && local == "a.b.c"
			if got := impl.AddressValid(boxed(local, "x.org")); got != want {
				t.Errorf("AddressValid of Local %q = %v", local, got)
			}
		}
		for _, domain := range []string{s, s + "a", "a" + s, "a.b" + s + "c"} {
			inside := domain == "a.b"+s+"c"
			want := strings.Contains(labelBytes, s) && (s != "-" || inside) || s == "." && inside
			if got := impl.AddressValid(boxed("a", domain)); got != want {
				t.Errorf("AddressValid of Domain %q = %v", domain, got)
			}
		}
	}
}

func TestPointsOfMailboxes(t *testing.T) {
	for local, want := range map[string]bool{
		"": false, ".": false, "..": false, ".a": false, "a.": false, "a..b": false, `"a b"`: false, "a b": false,
		"a": true, "a.b": true, "a.b.c": true, "-": true, "A.Z": true, "{.}": true,
	} {
		if got := impl.AddressValid(boxed(local, "x")); got != want {
			t.Errorf("AddressValid of Local %q = %v", local, got)
		}
	}
	for domain, want := range map[string]bool{
		"": false, ".": false, "..": false, ".a": false, "a.": false, "a..b": false, "-": false, "--": false,
		"-a": false, "a-": false, "a-.b": false, "a.-b": false, "a.b-": false, "a.-.b": false, "X": false, "x.orG": false,
		"a": true, "0": true, "1.2.3": true, "a-b": true, "a--b": true, "0-9.x-y": true,
	} {
		if got := impl.AddressValid(boxed("a", domain)); got != want {
			t.Errorf("AddressValid of Domain %q = %v", domain, got)
		}
	}
}

func TestLengthsOfMailboxes(t *testing.T) {
	for n, want := range map[int]bool{0: false, 1: true, 29: true, 30: true, 31: false, 1000: false} {
		if got := impl.AddressValid(boxed(strings.Repeat("l", n), "x")); got != want {
			t.Errorf("AddressValid of a Local of %d bytes = %v", n, got)
		}
	}
	for n, want := range map[int]bool{0: false, 1: true, 39: true, 40: true, 41: false, 1000: false} {
		if got := impl.AddressValid(boxed("a", strings.Repeat("d", n))); got != want {
			t.Errorf("AddressValid of a Domain of %d bytes = %v", n, got)
		}
	}
	// The points count as well.
	for points, want := range map[int]bool{13: true, 14: true, 15: false, 500: false} {
		local := strings.Repeat("a.", points) + "bc"
		if got := impl.AddressValid(boxed(local, "x")); got != want {
			t.Errorf("AddressValid of Local %q = %v", local, got)
		}
		domain := strings.Repeat("a.", points+5) + "bc"
		if got := impl.AddressValid(boxed("a", domain)); got != want {
			t.Errorf("AddressValid of Domain %q = %v", domain, got)
		}
	}
}

func TestParseLengthsOfMailboxes(t *testing.T) {
	for n := 29; n <= 30; n++ {
		expectAddress(t, strings.Repeat("l", n)+"@x", boxed(strings.Repeat("l", n), "x"))
		expectAddress(t, "<"+strings.Repeat("l", n)+"@x>", boxed(strings.Repeat("l", n), "x"))
	}
	for n := 39; n <= 40; n++ {
		expectAddress(t, "a@"+strings.Repeat("D", n), boxed("a", strings.Repeat("d", n)))
		expectAddress(t, "<a@"+strings.Repeat("D", n)+">", boxed("a", strings.Repeat("d", n)))
	}
	expectNoAddress(t, strings.Repeat("l", 31)+"@x")
	expectNoAddress(t, "a@"+strings.Repeat("d", 41))
	expectNoAddress(t, "Ann <"+strings.Repeat("l", 31)+"@x>")
	expectNoAddress(t, "Ann <a@"+strings.Repeat("d", 41)+">")
}

func TestFormatAddress(t *testing.T) {
	for name, want := range map[string]string{
		"":         `ann@x.org`,
		"Ann":      `Ann <ann@x.org>`,
		"Ann Lee":  `"Ann Lee" <ann@x.org>`,
		"Lee, Ann": `"Lee, Ann" <ann@x.org>`,
		",":        `"," <ann@x.org>`,
		"<b@y>":    `"<b@y>" <ann@x.org>`,
		`"`:        `"\"" <ann@x.org>`,
		`\`:        `"\\" <ann@x.org>`,
		`", <`:     `"\", <" <ann@x.org>`,
		" ":        `" " <ann@x.org>`,
		" a  b ":   `" a  b " <ann@x.org>`,
	} {
		expectFormat(t, named(name), want)
	}
	expectFormat(t, boxed("a.b", "c-d.e"), "a.b@c-d.e")
	expectFormat(t, boxed("Ann", "x"), "Ann@x")
}

func TestFormatAddressThatIsNotValid(t *testing.T) {
	for _, a := range []impl.Address{
		{}, {Name: "Ann"}, boxed("ann", ""), boxed("", "x.org"), boxed("a b", "x"), boxed("a@b", "x"), boxed("a", "b@x"),
		boxed("a", "X"), boxed("a", "x_y"), boxed("a", "Zo\u00eb"), boxed("Zo\u00eb", "x"), boxed("a\x00", "x"), boxed("a", "x\n"),
		named("a\n"), named("\x1f"), named("\x7f"), named("Zo\u00eb"), named("\xff"),
	} {
		expectFormat(t, a, "")
	}
}

func TestNamesOfAddresses(t *testing.T) {
	for n := 39; n <= 40; n++ {
		expectFormat(t, named(strings.Repeat("n", n)), strings.Repeat("n", n)+" <ann@x.org>")
		expectFormat(t, named(strings.Repeat(",", n)), `"`+strings.Repeat(",", n)+`" <ann@x.org>`)
		expectFormat(t, named(strings.Repeat(`"`, n)), `"`+strings.Repeat(`\"`, n)+`" <ann@x.org>`)
		expectAddress(t, strings.Repeat("n", n-2)+"   m <ann@x.org>", named(strings.Repeat("n", n-2)+" m"))
	}
	for _, c := range []string{"n", ",", `"`, " "} {
		expectFormat(t, named(strings.Repeat(c, 41)), "")
		expectFormat(t, named(strings.Repeat(c, 200)), "")
	}
	expectNoAddress(t, strings.Repeat("n", 41)+" <ann@x.org>")
	expectNoAddress(t, `"`+strings.Repeat(",", 41)+`" <ann@x.org>`)
	expectNoAddress(t, strings.Repeat("n", 39)+" m <ann@x.org>")
}

// The longest text of an address is shorter than a text may be.
func TestLongestAddress(t *testing.T) {
	local, domain := strings.Repeat("l", 30), strings.Repeat("d", 40)
	a := impl.Address{Name: strings.Repeat(`\`, 40), Local: local, Domain: domain}
	expectFormat(t, a, `"`+strings.Repeat(`\\`, 40)+`" <`+local+"@"+domain+">")
}

func TestNamesAreReadBack(t *testing.T) {
	names := stringsOver("a \",\\<>@", 4)
	for c := range 127 {
		if c >= 32 {
			names = append(names, string([]byte{byte(c)}), "a"+string([]byte{byte(c)})+"b")
		}
	}
	for _, name := range names {
		a := named(name)
		expectAddress(t, impl.FormatAddress(a), a)
		list := []impl.Address{a, boxed("b", "y"), a}
		expectList(t, impl.FormatList(list), list...)
	}
}

func TestParseAddress(t *testing.T) {
	for s, want := range map[string]impl.Address{
		`ann@x.org`:                               named(""),
		`  ann@x.org   `:                          named(""),
		`<ann@x.org>`:                             named(""),
		` <ann@x.org> `:                           named(""),
		`"" <ann@x.org>`:                          named(""),
		`"" "" <ann@x.org>`:                       named(" "),
		`" " <ann@x.org>`:                         named(" "),
		`Ann<ann@x.org>`:                          named("Ann"),
		`"Ann"<ann@x.org>`:                        named("Ann"),
		`"Ann" <ann@x.org>`:                       named("Ann"),
		`  Ann   Lee   <ann@x.org>  `:             named("Ann Lee"),
		`Ann " van  Lee" <ann@x.org>`:             named("Ann  van  Lee"),
		`"Lee, Ann" <ann@x.org>`:                  named("Lee, Ann"),
		`"<b@y>" <ann@x.org>`:                     named("<b@y>"),
		`"a@b" "<" <ann@x.org>`:                   named("a@b <"),
		`"a\"<\\" <ann@x.org>`:                    named(`a"<\`),
		`"\A\n\n\ " <ann@x.org>`:                  named("Ann "),
		`ann@X.ORG`:                               named(""),
		`Ann <ann@X.oRg>`:                         named("Ann"),
		`Ann@X.org`:                               boxed("Ann", "x.org"),
		`a.b@c-d.e`:                               boxed("a.b", "c-d.e"),
		`=?utf-8?q?a?= <a@b>`:                     {Name: "=?utf-8?q?a?=", Local: "a", Domain: "b"},
		strings.Repeat(" ", 194) + "a@bb  ":       boxed("a", "bb"),
		"a@b" + strings.Repeat(" ", 197):          boxed("a", "b"),
		"a" + strings.Repeat(" ", 194) + "<a@b>":  {Name: "a", Local: "a", Domain: "b"},
		"a" + strings.Repeat(" ", 193) + "<a@b> ": {Name: "a", Local: "a", Domain: "b"},
	} {
		expectAddress(t, s, want)
	}
}

func TestCapitalLettersOfDomains(t *testing.T) {
	expectAddress(t, "a@ABCDEFGHIJKLMNOPQRSTUVWXYZ.Az", boxed("a", "abcdefghijklmnopqrstuvwxyz.az"))
	expectAddress(t, "Ann@X", boxed("Ann", "x"))
	expectFormat(t, boxed("a", "X.org"), "")
	expectNoAddress(t, "a@\u212a")
	if got, ok := impl.ParseAddress("Ann <ANN@X.ORG>"); !ok || impl.FormatAddress(got) != "Ann <ANN@x.org>" {
		t.Errorf("ParseAddress = %q, %v", got, ok)
	}
	if impl.FormatList([]impl.Address{boxed("a", "x"), boxed("a", "X")}) != "" {
		t.Error("FormatList takes a Domain with a capital letter")
	}
	expectList(t, "a@X, A@x", boxed("a", "x"), boxed("A", "x"))
}

func TestParseAddressOfOtherText(t *testing.T) {
	for _, s := range []string{
		"", " ", "ann", "@", "@x", "ann@", "a@b@c", "a@b c", "a b@c", "a @b", "a@ b", "a..b@c", ".a@b", "a.@b", // no mailbox
		"a@x.", "a@.x", "a@x..y", "a@-x", "a@x-", "a@x_y", "a@[x]", "a@b,", "a@b, c@d", "a,b@c", "(a)@b", "a;@b", // nor here
		"<>", "< >", "<a@>", "<@b>", "<a>", "< a@b>", "<a@b >", "<a @b>", "Ann <a@b c>", // nor between the signs
		"<a@b", "Ann <a@b", "a@b>", "Ann a@b>", "<a@b> c", "<a@b>.", "<a@b>>", "<<a@b>", "<<a@b>>", "<a@b><c@d>", "<a@b> <c@d>", ">a@b<", "<", ">", // signs
		"a.b <a@b>", "Lee, Ann <a@b>", `a"b" <a@b>`, `"a""b" <a@b>`, `\a <a@b>`, "a@b <a@b>", "<a <a@b>", // no words
		`"`, `"a@b`, `"a@b"`, `"a"@b`, `"a@c"@b`, `a"@"@b`, `a@"b"`, `a@b"`, `"a" a@b`, `Ann a@b`, // quotes in a mailbox
		`"Ann <a@b>`, `"Ann <a@b>"`, `"Ann\" <a@b>`, `"Ann\\\" <a@b>`, `Ann" <a@b>`, `Ann <"a"@b>`, `Ann <a@b">`, `<a@b"> "`, // no end
		"a@b\n", "\ta@b", "a@b\x00", "Zo\u00eb <a@b>", "\"\x7f\" <a@b>", "a@Zo\u00eb", "\xffa@b", "<a@b>\r", // no text
		strings.Repeat(" ", 198) + "a@b", "a@b" + strings.Repeat(" ", 198), "a" + strings.Repeat(" ", 195) + "<a@b>",
		strings.Repeat(`"`, 100000), strings.Repeat("<", 200), strings.Repeat("@", 200),
	} {
		expectNoAddress(t, s)
	}
}

// addressForm is another way to read addresses: whether a text is one, and
// what its name, Local and Domain are.
var addressForm = func() *regexp.Regexp {
	atom := "[" + regexp.QuoteMeta(atomBytes[:62]) + "!#$%&'*+/=?^_`{|}~-]+"
	word := `(?:` + atom + `|"(?:[^"\\]|\\.)*")`
	label := `[A-Za-z0-9](?:[A-Za-z0-9-]*[A-Za-z0-9])?`
	box := `(` + atom + `(?:\.` + atom + `)*)@(` + label + `(?:\.` + label + `)*)`
	return regexp.MustCompile(`^ *(?:` + box + `|((?:` + word + `(?: +` + word + `)*)?) *<` + box + `>) *$`)
}()

func readAddress(s string) (impl.Address, bool) {
	found := addressForm.FindStringSubmatch(s)
	if found == nil || !impl.TextValid(s) {
		return impl.Address{}, false
	}
	words, _ := readLeniently(found[3])
	a := impl.Address{
		Name:   strings.Join(words, " "),
		Local:  found[1] + found[4],
		Domain: strings.ToLower(found[2] + found[5]),
	}
	return a, len(a.Name) <= 40 && len(a.Local) <= 30 && len(a.Domain) <= 40
}

// readList tries every comma; the text before the right one is an address.
func readList(s string) ([]impl.Address, bool) {
	if a, ok := readAddress(s); ok {
		return []impl.Address{a}, true
	}
	for i := range len(s) {
		if s[i] != ',' {
			continue
		}
		if a, ok := readAddress(s[:i]); ok {
			rest, ok := readList(s[i+1:])
			return append([]impl.Address{a}, rest...), ok
		}
	}
	return nil, false
}

// What is read in a lenient way has one form in which it is written.
func TestAddressesAreWrittenInOneForm(t *testing.T) {
	for _, s := range stringsOf([]string{"a@B", "a", `"`, `\`, " ", "<", ">", ","}, 6) {
		want, found := readAddress(s)
		if !found {
			expectNoAddress(t, s)
			continue
		}
		expectAddress(t, s, want)
		expectFormat(t, want, impl.FormatAddress(want))
	}
}

func TestListsAreWrittenInOneForm(t *testing.T) {
	for _, s := range stringsOf([]string{"a@B", "<c@d>", `"`, `\`, " ", ","}, 6) {
		want, found := readList(s)
		switch {
		case strings.Trim(s, " ") == "":
			expectList(t, s)
		case !found:
			expectNoList(t, s)
		default:
			expectList(t, s, want...)
			expectList(t, impl.FormatList(want), want...)
		}
	}
}

func TestFormatList(t *testing.T) {
	for want, list := range map[string][]impl.Address{
		``:                                    nil,
		`ann@x.org`:                           {named("")},
		`a@b, a@b`:                            {boxed("a", "b"), boxed("a", "b")},
		`"Lee, Ann" <ann@x.org>, bob@y.org`:   {named("Lee, Ann"), boxed("bob", "y.org")},
		`"\", <" <ann@x.org>, a@b, "," <a@b>`: {named(`", <`), boxed("a", "b"), {Name: ",", Local: "a", Domain: "b"}},
	} {
		if got := impl.FormatList(list); got != want {
			t.Errorf("FormatList(%q) = %q, want %q", list, got, want)
		}
		expectList(t, want, list...)
	}
	if got := impl.FormatList([]impl.Address{}); got != "" {
		t.Errorf("FormatList of nothing = %q", got)
	}
	for _, list := range [][]impl.Address{
		{{}}, {named(""), {}}, {{}, named("")}, {named("a"), named("\n"), named("b")}, {boxed("a", "X")}, {named(strings.Repeat("n", 41))},
	} {
		if got := impl.FormatList(list); got != "" {
			t.Errorf("FormatList(%q) = %q", list, got)
		}
	}
}

func TestParseList(t *testing.T) {
	for _, s := range []string{"", " ", "   ", strings.Repeat(" ", 199), strings.Repeat(" ", 200)} {
		expectList(t, s)
	}
	a, b := boxed("a", "b"), boxed("c", "d")
	for _, s := range []string{"a@b,c@d", "a@b, c@d", "  a@b  ,  c@d  ", "<a@b>,c@D", `"" <a@b> , <c@d>`} {
		expectList(t, s, a, b)
	}
	expectList(t, `"Lee, Ann" <ann@x.org>,bob@Y.org , ann@x.org`, named("Lee, Ann"), boxed("bob", "y.org"), named(""))
	expectList(t, `"a\",b" <ann@x.org>,"," "\\" <ann@x.org>,a@b`, named(`a",b`), named(`, \`), a)
	expectList(t, `Ann Lee <ann@x.org>, Ann Lee <ann@x.org>`, named("Ann Lee"), named("Ann Lee"))
}

func TestParseListOfOtherText(t *testing.T) {
	for _, s := range []string{
		",", " , ", ",,", "a@b,", ",a@b", "a@b,,c@d", "a@b, ,c@d", "a@b, ", " ,a@b", // a part of nothing
		"a", "a@b c@d", "a@b;c@d", "a@b, c", "c, a@b", "Lee, Ann <a@b>", "<a@b,c@d>", "<a@b>, <c@d", "a@-,b@c", // no address
		`"Lee, Ann <a@b>`, `"a@b, c@d`, `a@b, "c@d`, `"a\",b <a@b>`, `"a\", b" <a@b>, "`, `"a@b","c@d"`, `\"a@b, c@d`, // quotes
		"a@b\n", "\n", "\t", "a@b,\x00", "Zo\u00eb <a@b>, c@d", "a@b, \xff", "a@b,c@d\x7f", // no text
		strings.Repeat(" ", 201), strings.Repeat(" ", 198) + "a@b", "a@b," + strings.Repeat(" ", 194) + "c@d",
		strings.Repeat(",", 200), strings.Repeat("a@b,", 100000), strings.Repeat(`"`, 100000),
	} {
		expectNoList(t, s)
	}
	expectList(t, "a@b,"+strings.Repeat(" ", 193)+"c@d", boxed("a", "b"), boxed("c", "d"))
}

func TestNumberOfAListsAddresses(t *testing.T) {
	for n := 1; n <= 20; n++ {
		list := slices.Repeat([]impl.Address{boxed("a", "b")}, n)
		text := strings.Repeat("a@b, ", n-1) + "a@b"
		if n > 10 {
			text = ""
			expectNoList(t, strings.Repeat("a@b,", n-1)+"a@b")
			expectNoList(t, strings.Repeat("a@b,", n-1)+"a")
		} else {
			expectList(t, text, list...)
		}
		if got := impl.FormatList(list); got != text {
			t.Errorf("FormatList of %d addresses = %q, want %q", n, got, text)
		}
	}
}

// The last address is chosen so that the text has exactly the bytes of its
// limit, one less, or one more.
func TestLengthOfList(t *testing.T) {
	for length := 198; length <= 203; length++ {
		list := []impl.Address{sized(71), sized(71), sized(length - 146)}
		got := impl.FormatList(list)
		if length > 200 {
			if got != "" {
				t.Errorf("FormatList of %d bytes = %q", length, got)
			}
			continue
		}
		if len(got) != length {
			t.Errorf("FormatList = %q, want %d bytes", got, length)
		}
		expectList(t, got, list...)
	}
	if got := impl.FormatList(slices.Repeat([]impl.Address{sized(71)}, 10)); got != "" {
		t.Errorf("FormatList of ten long addresses = %q", got)
	}
}

func TestSameBox(t *testing.T) {
	invalid := impl.Address{Name: "\n", Local: " @", Domain: "-\xc9K"}
	for _, pair := range [][2]impl.Address{
		{{}, {}}, {named("Ann"), named("Lee")}, {named(""), named("\x00")}, {boxed("a", "X.org"), boxed("a", "x.ORG")},
		{invalid, boxed(" @", "-\xc9k")}, {boxed("a", ""), boxed("a", "")},
	} {
		if !impl.SameBox(pair[0], pair[1]) || !impl.SameBox(pair[1], pair[0]) {
			t.Errorf("SameBox(%q, %q) = false", pair[0], pair[1])
		}
	}
	for _, pair := range [][2]impl.Address{
		{boxed("a", "x"), boxed("A", "x")}, {boxed("a", "x"), boxed("a", "y")}, {boxed("a", "x"), boxed("b", "x")},
		{boxed("a", "x"), boxed("a", "x.")}, {boxed("a", "b@c"), boxed("a@b", "c")}, {boxed("a", ""), boxed("", "a")},
		{boxed("ab", "c"), boxed("a", "bc")}, {boxed("a", "\xc9"), boxed("a", "\xe9")}, {boxed("a", "k"), boxed("a", "\u212a")}, {{}, boxed("", " ")},
	} {
		if impl.SameBox(pair[0], pair[1]) || impl.SameBox(pair[1], pair[0]) {
			t.Errorf("SameBox(%q, %q) = true", pair[0], pair[1])
		}
	}
}

func TestDropRepeated(t *testing.T) {
	a, capital, b := named("Ann"), impl.Address{Name: "Lee", Local: "ann", Domain: "X.ORG"}, boxed("bob", "x.org")
	other := boxed("Ann", "x.org")
	for _, c := range []struct{ list, want []impl.Address }{
		{nil, nil},
		{[]impl.Address{a}, []impl.Address{a}},
		{[]impl.Address{a, capital, b, a}, []impl.Address{a, b}},
		{[]impl.Address{capital, b, a, b}, []impl.Address{capital, b}},
		{[]impl.Address{b, a, b, other, other}, []impl.Address{b, a, other}},
		{[]impl.Address{{}, {Name: "\n"}, boxed("\xff", ""), {}, boxed("\xff", "")}, []impl.Address{{}, boxed("\xff", "")}},
		{[]impl.Address{boxed("a", "b@c"), boxed("a@b", "c"), boxed("a", "B@C")}, []impl.Address{boxed("a", "b@c"), boxed("a@b", "c")}},
	} {
		if got := impl.DropRepeated(c.list); !slices.Equal(got, c.want) {
			t.Errorf("DropRepeated(%q) = %q, want %q", c.list, got, c.want)
		}
	}
}

// The result of DropRepeated is what SameBox says of all pairs, however many
// addresses there are.
func TestDropRepeatedOfManyAddresses(t *testing.T) {
	var list, want []impl.Address
	for i := range 600 {
		a := boxed(strings.Repeat("a", i%7), strings.Repeat("xX"[i%2:i%2+1], i%11))
		if !slices.ContainsFunc(list, func(b impl.Address) bool { return impl.SameBox(a, b) }) {
			want = append(want, a)
		}
		list = append(list, a)
	}
	if got := impl.DropRepeated(list); !slices.Equal(got, want) || len(want) != 77 {
		t.Errorf("DropRepeated = %q, want %q", got, want)
	}
}

func TestDomainsOf(t *testing.T) {
	for _, c := range []struct{ domains, want []string }{
		{nil, nil},
		{[]string{"x.org"}, []string{"x.org"}},
		{[]string{"y.org", "X.org", "x.ORG", "Y.org"}, []string{"x.org", "y.org"}},
		{[]string{"b", "a.b", "a", "a-b", "ab", "0", "a"}, []string{"0", "a", "a-b", "a.b", "ab", "b"}},
		{[]string{"Z", "\xff", "", "_", "Zo\u00cb", "-", "\n", "", "z"}, []string{"", "\n", "-", "_", "z", "zo\u00cb", "\xff"}},
	} {
		var list []impl.Address
		for i, domain := range c.domains {
			list = append(list, impl.Address{Name: "\n", Local: strings.Repeat("@", i), Domain: domain})
		}
		if got := impl.DomainsOf(list); !slices.Equal(got, c.want) {
			t.Errorf("DomainsOf of %q = %q, want %q", c.domains, got, c.want)
		}
	}
}

func TestAddressesLeaveArguments(t *testing.T) {
	whole := []impl.Address{boxed("b", "Y"), boxed("b", "y"), boxed("a", "X"), named("rest")}
	list := slices.Clone(whole)
	kept := impl.DropRepeated(list[:3])
	impl.DomainsOf(list[:3])
	impl.FormatList(list[:3])
	_ = append(kept, named("more"))
	for i := range kept {
		kept[i] = impl.Address{}
	}
	if !slices.Equal(list, whole) {
		t.Errorf("the argument became %q", list)
	}
	one, _ := impl.ParseList("a@b, c@d")
	two, _ := impl.ParseList("a@b, c@d")
	one[0] = impl.Address{}
	_ = append(one, impl.Address{})
	if !slices.Equal(two, []impl.Address{boxed("a", "b"), boxed("c", "d")}) {
		t.Errorf("results share memory: %q", two)
	}
}
