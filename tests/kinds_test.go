package tests

import (
	"fmt"
	"math/rand"
	"regexp"
	"slices"
	"strings"
	"testing"

	"loop.example/mailwire/impl"
)

// The forms of a kind and of one parameter, written out without their limits.
var (
	kindForm  = regexp.MustCompile(`\A *([A-Za-z][A-Za-z0-9-]*)/([A-Za-z][A-Za-z0-9-]*) *((?:; *[A-Za-z][A-Za-z0-9-]* *= *(?:[!#-'*+\-/0-9=?A-Z^-~]+|"(?:[^"\\]|\\.)*") *)*)\z`)
	paramForm = regexp.MustCompile(`; *([A-Za-z][A-Za-z0-9-]*) *= *(?:([!#-'*+\-/0-9=?A-Z^-~]+)|"((?:[^"\\]|\\.)*)") *`)
	valueAtom = regexp.MustCompile(`\A[!#-'*+\-/0-9=?A-Z^-~]{1,40}\z`)
	backslash = regexp.MustCompile(`\\(.)`)
)

// kind makes a kind with parameters, which are names and values by turns.
func kind(main string, sub string, params ...string) impl.Kind {
	k := impl.Kind{Main: main, Sub: sub}
	for i := 0; i < len(params); i += 2 {
		k.Params = append(k.Params, field(params[i], params[i+1]))
	}
	return k
}

// equalKinds holds all fields against each other without the program.
func equalKinds(a impl.Kind, b impl.Kind) bool {
	return a.Main == b.Main && a.Sub == b.Sub && slices.Equal(a.Params, b.Params)
}

// formatByParts is another way to write a kind that is valid.
func formatByParts(k impl.Kind) string {
	parts := []string{k.Main + "/" + k.Sub}
	for _, param := range k.Params {
		value := param.Value
		if !valueAtom.MatchString(value) {
			value = `"` + strings.NewReplacer(`"`, `\"`, `\`, `\\`).Replace(value) + `"`
		}
		parts = append(parts, param.Name+"="+value)
	}
	return strings.Join(parts, "; ")
}

// readKindByForm is another way to read a kind.
func readKindByForm(s string) (impl.Kind, bool) {
	found := kindForm.FindStringSubmatch(s)
	if found == nil || len(s) > 200 || strings.Trim(s, printed()) != "" {
		return impl.Kind{}, false
	}
	k := kind(strings.ToLower(found[1]), strings.ToLower(found[2]))
	fits := len(k.Main) <= 30 && len(k.Sub) <= 30
	names := map[string]bool{}
	for _, param := range paramForm.FindAllStringSubmatch(found[3], -1) {
		f := field(strings.ToLower(param[1]), param[2]+backslash.ReplaceAllString(param[3], "$1"))
		fits = fits && len(f.Name) <= 30 && len(f.Value) <= 40
		names[f.Name] = true
		k.Params = append(k.Params, f)
	}
	if !fits || len(k.Params) > 4 || len(names) < len(k.Params) || len(formatByParts(k)) > 150 {
		return impl.Kind{}, false
	}
	return k, true
}

// printed returns all bytes of texts.
func printed() string {
	all := ""
	for c := byte(' '); c <= '~'; c++ {
		all += string(rune(c))
	}
	return all
}

// expectKind holds the text of a valid kind against what is wanted, and reads
// it back.
func expectKind(t *testing.T, k impl.Kind, want string) {
	t.Helper()
	if !impl.KindValid(k) {
		t.Errorf("KindValid(%q) = false", k)
	}
	if got := impl.FormatKind(k); got != want {
		t.Errorf("FormatKind(%q) = %q, want %q", k, got, want)
	}
	expectKindOf(t, want, k)
}

// expectNoKind holds a kind that is not valid against all that tells of it.
func expectNoKind(t *testing.T, k impl.Kind) {
	t.Helper()
	if impl.KindValid(k) {
		t.Errorf("KindValid(%q) = true", k)
	}
	if got := impl.FormatKind(k); got != "" {
		t.Errorf("FormatKind(%q) = %q", k, got)
	}
	expectNoBoundary(t, k)
}

// expectKindOf holds what is read from a text against what is wanted.
func expectKindOf(t *testing.T, s string, want impl.Kind) {
	t.Helper()
	if got, ok := impl.ParseKind(s); !ok || !equalKinds(got, want) {
		t.Errorf("ParseKind(%q) = %q, %v, want %q", s, got, ok, want)
	}
}

func expectNoKindOf(t *testing.T, s string) {
	t.Helper()
	if got, ok := impl.ParseKind(s); ok || !equalKinds(got, impl.Kind{}) {
		t.Errorf("ParseKind(%q) = %q, %v, want none", s, got, ok)
	}
}

// expectAsByKindForm holds a text against the other reader, and what was read
// against the one form in which it is written.
func expectAsByKindForm(t *testing.T, s string) bool {
	t.Helper()
	want, ok := readKindByForm(s)
	if !ok {
		expectNoKindOf(t, s)
		return false
	}
	expectKindOf(t, s, want)
	expectKind(t, want, formatByParts(want))
	return true
}

func expectBoundary(t *testing.T, k impl.Kind, want string) {
	t.Helper()
	if got, ok := impl.BoundaryOf(k); !ok || got != want {
		t.Errorf("BoundaryOf(%q) = %q, %v, want %q", k, got, ok, want)
	}
}

func expectNoBoundary(t *testing.T, k impl.Kind) {
	t.Helper()
	if got, ok := impl.BoundaryOf(k); ok || got != "" {
		t.Errorf("BoundaryOf(%q) = %q, %v, want none", k, got, ok)
	}
}

func TestLimitsOfKinds(t *testing.T) {
	if impl.MaxParams != 4 || impl.MaxBoundary != 20 {
		t.Errorf("MaxParams = %d, MaxBoundary = %d", impl.MaxParams, impl.MaxBoundary)
	}
}

func TestKinds(t *testing.T) {
	expectKind(t, kind("text", "plain"), "text/plain")
	expectKind(t, kind("a", "b"), "a/b")
	expectKind(t, kind("a-1", "x-2-"), "a-1/x-2-")
	expectKind(t, kind("multipart", "mixed", "boundary", "b0"), "multipart/mixed; boundary=b0")
	expectKind(t, kind("text", "plain", "charset", "utf-8"), "text/plain; charset=utf-8")
	expectKind(t, kind("a", "b", "c", ""), `a/b; c=""`)
	expectKind(t, kind("a", "b", "c", " "), `a/b; c=" "`)
	expectKind(t, kind("a", "b", "c", " d "), `a/b; c=" d "`)
	expectKind(t, kind("a", "b", "c", "="), "a/b; c==")
	expectKind(t, kind("a", "b", "c", "=d="), "a/b; c==d=")
	expectKind(t, kind("a", "b", "c", "d/e"), "a/b; c=d/e")
	expectKind(t, kind("a", "b", "c", ";"), `a/b; c=";"`)
	expectKind(t, kind("a", "b", "c", `"`), `a/b; c="\""`)
	expectKind(t, kind("a", "b", "c", `\`), `a/b; c="\\"`)
	expectKind(t, kind("a", "b", "c", `";d="`), `a/b; c="\";d=\""`)
	expectKind(t, kind("a", "b", "c", `\";`), `a/b; c="\\\";"`)
	expectKind(t, kind("a", "b", "c", "D;E", "f", "G H"), `a/b; c="D;E"; f="G H"`)
	expectKind(t, kind("a", "b", "b", "1", "a", "2", "c-", "3"), "a/b; b=1; a=2; c-=3")
	expectKind(t, kind("a", "a", "a", "a"), "a/a; a=a")
	// The order of the parameters is kept.
	expectKind(t, kind("a", "b", "z", "1", "y", "1", "x", "1"), "a/b; z=1; y=1; x=1")
	expectNoKind(t, impl.Kind{})
	expectNoKind(t, impl.Kind{Params: []impl.Field{field("a", "b")}})
}

// withName returns kinds that have a name in each place for one.
func withName(name string) []impl.Kind {
	return []impl.Kind{
		kind(name, "z"), kind("z", name), kind("z", "z", name, "v"),
		kind("z", "z", name, "v", "zz", "w"), kind("z", "z", "zz", "w", "zzz", "x", name, "v"),
	}
}

func TestBytesOfNamesOfKinds(t *testing.T) {
	const first = "abcdefghijklmnopqrstuvwxyz"
	for c := range 256 {
		s := string([]byte{byte(c)})
		for _, name := range []string{s, s + "a", "a" + s, "a" + s + "b", "a-" + s + "-9"} {
			want := strings.Contains(first+"0123456789-", s) && strings.Contains(first, name[:1])
			for _, k := range withName(name) {
				if want {
					expectKind(t, k, formatByParts(k))
				} else {
					expectNoKind(t, k)
				}
				expectAsByKindForm(t, formatByParts(k))
			}
		}
	}
}

func TestNamesOfKindsThatAreNotValid(t *testing.T) {
	for _, name := range []string{
		"", " ", "-", "1", "-a", "9a", " a", "a ", "a b", "a/", "/", "a/b", "a=", "=", "a=b", "a;b", "a.b", "a_b", `"a"`, "a\n", "\x00",
		"A", "aB", "Ab", "TEXT", "a-B", "Zo\u00eb", "\u212a", "\u0131", "a\xff",
		strings.Repeat("n", 31), strings.Repeat("n", 40), strings.Repeat("n", 100000), strings.Repeat("n", 29) + "N",
	} {
		for _, k := range withName(name) {
			expectNoKind(t, k)
			expectAsByKindForm(t, formatByParts(k))
		}
	}
}

func TestLengthOfNamesOfKinds(t *testing.T) {
	for n := 0; n <= 33; n++ {
		for _, k := range withName(strings.Repeat("n", n)) {
			if n == 0 || n > 30 {
				expectNoKind(t, k)
				expectNoKindOf(t, formatByParts(k))
			} else {
				expectKind(t, k, formatByParts(k))
				expectKindOf(t, strings.ToUpper(formatByParts(kind(k.Main, k.Sub))), kind(k.Main, k.Sub))
			}
		}
	}
	name := strings.Repeat("n", 30)
	expectKind(t, kind(name, name, name, "v"), name+"/"+name+"; "+name+"=v")
	expectKindOf(t, "a/b; "+strings.ToUpper(name)+"=v", kind("a", "b", name, "v"))
	expectNoKindOf(t, "a/b; "+strings.ToUpper(name)+"N=v")
}

func TestBytesOfParameters(t *testing.T) {
	for c := range 256 {
		s := string([]byte{byte(c)})
		for _, value := range []string{s, s + "a", "a" + s, "a" + s + "b", s + s, " " + s + " "} {
			k := kind("a", "b", "c", value, "d", "e")
			if c >= 32 && c <= 126 {
				expectKind(t, k, formatByParts(k))
			} else {
				expectNoKind(t, k)
				expectNoKindOf(t, formatByParts(k))
			}
			expectAsByKindForm(t, "a/b;c="+value)
			expectAsByKindForm(t, `a/b;c="`+value+`"`)
			expectAsByKindForm(t, `a/b;c="\`+value+`"; d=e`)
		}
	}
	for _, value := range []string{"a\r\nb", "\x7f", "Zo\u00eb", "\xff", "a\tb"} {
		expectNoKind(t, kind("a", "b", "c", value))
		expectNoKind(t, kind("a", "b", "c", "d", "e", value))
		expectNoKindOf(t, `a/b; c="`+value+`"`)
	}
}

func TestLengthOfParameters(t *testing.T) {
	for _, unit := range []string{"v", " ", ";", `"`, `\`, "=", `v "`} {
		for _, n := range []int{0, 1, 2, 39, 40, 41, 42, 60, 200, 201, 100000} {
			value := strings.Repeat(unit, n)[:n]
			k := kind("a", "b", "c", value)
			last := kind("a", "b", "d", "e", "c", value)
			if n <= 40 {
				expectKind(t, k, formatByParts(k))
				expectKind(t, last, formatByParts(last))
				continue
			}
			expectNoKind(t, k)
			expectNoKind(t, last)
			expectNoKindOf(t, formatByParts(k))
			expectNoKindOf(t, "a/b; c="+value)
		}
	}
}

func TestNumberOfParameters(t *testing.T) {
	k, text := kind("a", "b"), "a/b"
	for n := range 8 {
		if n <= 4 {
			expectKind(t, k, text)
		} else {
			expectNoKind(t, k)
			expectNoKindOf(t, text)
		}
		k.Params = append(k.Params, field(fmt.Sprintf("p%d", n), "v"))
		text += fmt.Sprintf("; p%d=v", n)
	}
	many := kind("a", "b")
	many.Params = make([]impl.Field, 100000)
	expectNoKind(t, many)
	expectNoKindOf(t, "a/b"+strings.Repeat(";c=d", 49))
	expectNoKindOf(t, "a/b"+strings.Repeat(";c=d", 100000))
}

func TestRepeatedParameters(t *testing.T) {
	expectNoKind(t, kind("a", "b", "c", "1", "c", "2"))
	expectNoKind(t, kind("a", "b", "c", "1", "c", "1"))
	expectNoKind(t, kind("a", "b", "c", "1", "d", "2", "c", "3"))
	expectNoKind(t, kind("a", "b", "d", "1", "c", "2", "c", "3"))
	expectNoKind(t, kind("a", "b", "d", "1", "c", "2", "e", "3", "c", "4"))
	expectNoKind(t, kind("multipart", "b", "boundary", "b0", "boundary", "b0"))
	for _, s := range []string{
		"a/b; c=1; c=1", "a/b; c=1; C=2", "a/b; C=1; c=2", "a/b; c=1; d=2; c=3", "a/b; dE=1; De=2", "a/b; c=1; c =2", "a/b;c=;c=1",
	} {
		expectNoKindOf(t, s)
	}
	expectKind(t, kind("a", "b", "c", "1", "cc", "1", "c-", "1"), "a/b; c=1; cc=1; c-=1")
}

// kindsOfLength returns kinds whose texts have a length, which is one near
// MaxValue: the last Value, Main or Sub has the bytes that are missing.
func kindsOfLength(length int) []impl.Kind {
	forty := strings.Repeat("v", 40)
	quotes := strings.Repeat(`"`, 40)
	var all []impl.Kind
	for _, params := range [][]string{
		{"c", forty, "d", forty, "e", forty, "f", ""},
		{"c", quotes, "d", forty, "e", ""},
		{"c", quotes, "d", quotes[20:]},
	} {
		missing := length - len(formatByParts(kind("a", "b", params...)))
		all = append(all, kind("a"+strings.Repeat("a", missing), "b", params...), kind("a", "b"+strings.Repeat("-", missing), params...))
		params[len(params)-1] += strings.Repeat(" ", missing)
		all = append(all, kind("a", "b", params...))
	}
	return all
}

func TestLengthOfKinds(t *testing.T) {
	for length := 146; length <= 155; length++ {
		for _, k := range kindsOfLength(length) {
			text := formatByParts(k)
			if len(text) != length {
				t.Fatalf("the text %q has %d bytes, not %d", text, len(text), length)
			}
			// What is read may be shorter than what is written.
			dense := strings.ReplaceAll(text, "; ", ";")
			if length <= 150 {
				expectKind(t, k, text)
				expectKindOf(t, dense, k)
				expectKindOf(t, strings.Repeat(" ", 200-length)+text, k)
			} else {
				expectNoKind(t, k)
				expectNoKindOf(t, text)
				expectNoKindOf(t, dense)
			}
		}
	}
	k := kind("multipart", "mixed", "boundary", "b0", "c", strings.Repeat(`"`, 40), "d", strings.Repeat("v", 32))
	expectKind(t, k, formatByParts(k))
	expectBoundary(t, k, "b0")
	k.Params[2].Value += "v"
	expectNoKind(t, k)
	name := strings.Repeat("n", 30)
	expectNoKind(t, kind(name, name, name, k.Params[2].Value, "m", strings.Repeat("v", 40)))
}

func TestLengthOfTextsOfKinds(t *testing.T) {
	for n, want := range map[int]bool{3: true, 150: true, 199: true, 200: true, 201: false, 202: false, 100000: false} {
		for _, s := range []string{
			"a/b" + strings.Repeat(" ", n-3),
			strings.Repeat(" ", n-3) + "a/b",
			strings.Repeat(" ", (n-3)/2) + "a/b" + strings.Repeat(" ", n-3-(n-3)/2),
		} {
			if want {
				expectKindOf(t, s, kind("a", "b"))
			} else {
				expectNoKindOf(t, s)
			}
		}
		if n < 150 {
			continue
		}
		for _, s := range []string{
			"a/b;c=" + strings.Repeat(" ", n-7) + "d",
			"a/b;c=d" + strings.Repeat(" ", n-7),
			"a/b;c" + strings.Repeat(" ", n-7) + "=d",
			"a/b;" + strings.Repeat(" ", n-7) + "c=d",
			"a/b" + strings.Repeat(" ", n-7) + ";c=d",
		} {
			if want {
				expectKindOf(t, s, kind("a", "b", "c", "d"))
			} else {
				expectNoKindOf(t, s)
			}
		}
	}
	// Escapes that are not needed do not count for the kind, only for the text.
	forty := strings.Repeat(`\v`, 40)
	short := strings.Repeat("v", 40)
	expectKindOf(t, `a/b;c="`+forty+`";d="`+forty+`"`, kind("a", "b", "c", short, "d", short))
	expectNoKindOf(t, `a/b;c="`+forty+`\v"`)
	expectNoKindOf(t, `a/b;c="`+forty+`";d="`+forty+`";e="`+forty+`"`)
}

func TestParseKind(t *testing.T) {
	for s, want := range map[string]impl.Kind{
		"text/plain":                        kind("text", "plain"),
		"TEXT/Plain":                        kind("text", "plain"),
		"  Text/HTML  ":                     kind("text", "html"),
		"a/b;c=d":                           kind("a", "b", "c", "d"),
		"a/b;  c=d":                         kind("a", "b", "c", "d"),
		" a/b ; c = d ":                     kind("a", "b", "c", "d"),
		"   a/b   ;   c   =   d   ":         kind("a", "b", "c", "d"),
		"A/B;C=D;E=F":                       kind("a", "b", "c", "D", "e", "F"),
		`a/b;c="D e"`:                       kind("a", "b", "c", "D e"),
		`a/b;c="d"`:                         kind("a", "b", "c", "d"),
		`a/b;c=""`:                          kind("a", "b", "c", ""),
		`a/b; c = "" ; d=""`:                kind("a", "b", "c", "", "d", ""),
		`a/b;c=" d "`:                       kind("a", "b", "c", " d "),
		`a/b;c=  " d "  `:                   kind("a", "b", "c", " d "),
		`a/b;c="d;e"`:                       kind("a", "b", "c", "d;e"),
		`a/b;c=";";d=";;"`:                  kind("a", "b", "c", ";", "d", ";;"),
		`a/b;c="d;e=f";g=h`:                 kind("a", "b", "c", "d;e=f", "g", "h"),
		`a/b;c="d\";e";g=h`:                 kind("a", "b", "c", `d";e`, "g", "h"),
		`a/b;c="\\";g=h`:                    kind("a", "b", "c", `\`, "g", "h"),
		`a/b;c="\\\";";g=";"`:               kind("a", "b", "c", `\";`, "g", ";"),
		`a/b;c="\d\;\e"`:                    kind("a", "b", "c", "d;e"),
		"a/b;c==":                           kind("a", "b", "c", "="),
		"a/b;c= =d":                         kind("a", "b", "c", "=d"),
		"a/b;c=d=e;f=g":                     kind("a", "b", "c", "d=e", "f", "g"),
		`a/b;c="="`:                         kind("a", "b", "c", "="),
		"a/b;c=d/e":                         kind("a", "b", "c", "d/e"),
		`a/b;c="\ "`:                        kind("a", "b", "c", " "),
		"a/b;c='d'":                         kind("a", "b", "c", "'d'"),
		` Multipart/Mixed ; BOUNDARY="Ab1"`: kind("multipart", "mixed", "boundary", "Ab1"),
	} {
		expectKindOf(t, s, want)
		expectKind(t, want, formatByParts(want))
		if !expectAsByKindForm(t, s) {
			t.Errorf("the other reader finds no kind in %q", s)
		}
	}
}

func TestParseKindOfOtherText(t *testing.T) {
	for _, s := range []string{
		"", " ", ";", "/", "a", "a/", "/b", "a b", "text plain", "a//b", "a/b/", "a/b/c", "/a/b", "a /b", "a/ b", "a / b", "a/b c", "a b/c",
		"a/b;", ";a/b", "a/b; ", "a/b;;c=d", "a/b;c=d;", "a/b;c=d; ;e=f", "a/b,c=d", "a/b c=d", "a;b/c", "a;c=d", ";c=d", "c=d",
		"a/b;c", "a/b;c;d=e", "a/b;=", "a/b;=d", "a/b; =d", "a/b;c=", "a/b;c= ", "a/b;c=;d=e", "a/b;c d", "a/b;c:d", "a/b;c d=e", "a/b;c=d e",
		"a/b;c=d e;f=g", `a/b;c="d" e`, `a/b;c="d" "e"`, `a/b;c="d""e"`, `a/b;c=d"e"`, `a/b;c="d"e`, `a/b;c="d`, `a/b;c=d"`, `a/b;c="`,
		`a/b;c="\"`, `a/b;c="d\"`, `a/b;c="d;e=f`, `a/b;c="d\";e=f`, `a/b;c="d;e"f"`, `a/b;c=\d`, `a/b;c=d\;e=f`, `a/b;c=\"d`,
		"a/b;c=(d)", "a/b;c=d,e", "a/b;c=d.e", "a/b;c=d:e", "a/b;c=<d>", "a/b;c=[d]", "a/b;c=d@e",
		`"a"/b`, `a/"b"`, `"a/b"`, `a/b;"c"=d`, `a/b";c=d"`, `a/b;"c=d"`, `"a;b"/c`, `"a/b;c=d`, `a/b;c"="d`,
		"1/b", "a/1", "-/b", "a/-b", "a/b;1=c", "a/b;-c=d", "a.b/c", "a/b.c", "a_b/c", "a/x_y", "a/b;c.d=e", "a/b;c*=d", "a\\/b",
		"a/b\n", "\na/b", "a/b;\tc=d", "a/b;c=d\r\n", "a/b;c=\"\x00\"", "a/b;c=\xff", "a/Zo\u00eb", "\u212a/b", "a/b;c=\"\u00eb\"",
		strings.Repeat("a", 31) + "/b", "a/" + strings.Repeat("b", 31), strings.Repeat("a/b;", 100000), strings.Repeat(`"`, 200), strings.Repeat(`\`, 100000),
	} {
		expectNoKindOf(t, s)
		if _, ok := readKindByForm(s); ok {
			t.Errorf("the other reader finds a kind in %q", s)
		}
	}
}

func TestKindsOfPieces(t *testing.T) {
	read := 0
	for _, s := range stringsOf([]string{"a", "/", ";", "=", `"`, " ", `\`}, 6) {
		for _, begin := range []string{"", "a/b;", "a/b;c="} {
			if expectAsByKindForm(t, begin+s) {
				read++
			}
		}
	}
	for _, s := range stringsOf([]string{"A/b", "; c", ";D = ", "=", `"e;"`, " ", "f", `"\"`, `\"`}, 5) {
		if expectAsByKindForm(t, s) {
			read++
		}
		expectAsByKindForm(t, "a/b;c="+s)
	}
	if read < 1000 {
		t.Errorf("%d of the texts are kinds", read)
	}
}

func TestKindsWithOneSlip(t *testing.T) {
	for _, s := range []string{`multipart/mixed; boundary=b0; name="a; b"`, ` A/B ; C = "d\"" ;E=f `, `a/b;c="\\";d=";"`, "x-a/y-1; z-=''"} {
		if !expectAsByKindForm(t, s) {
			t.Errorf("%q is no kind", s)
		}
		for at := 0; at <= len(s); at++ {
			for c := range 256 {
				slip := string([]byte{byte(c)})
				expectAsByKindForm(t, s[:at]+slip+s[at:])
				if at < len(s) {
					expectAsByKindForm(t, s[:at]+slip+s[at+1:])
				}
			}
			if at < len(s) {
				expectAsByKindForm(t, s[:at]+s[at+1:])
				expectAsByKindForm(t, s[:at])
			}
		}
	}
}

func TestParametersAreReadBack(t *testing.T) {
	for _, value := range stringsOver(`a;"\= `, 5) {
		k := kind("a", "b", "c", value, "d", value)
		expectKind(t, k, formatByParts(k))
	}
	random := rand.New(rand.NewSource(7))
	bytes := printed() + `"";;\\`
	for range 5000 {
		k := kind("a", "b")
		for i := range random.Intn(5) {
			value := make([]byte, random.Intn(41))
			for j := range value {
				value[j] = bytes[random.Intn(len(bytes))]
			}
			k.Params = append(k.Params, field(fmt.Sprintf("p%d", i), string(value)))
		}
		text := formatByParts(k)
		if len(text) > 150 {
			expectNoKind(t, k)
			expectNoKindOf(t, text)
			continue
		}
		expectKind(t, k, text)
		// Without the spaces, and with more of them, it is the same kind.
		expectAsByKindForm(t, text)
		expectAsByKindForm(t, " "+text+" ")
	}
}

func TestKindSame(t *testing.T) {
	all := []impl.Kind{
		{}, kind("a", "b"), kind("A", "b"), kind("a", "B"), kind("b", "a"), kind("a", ""), kind("", "a"), kind("ab", ""), kind("a/b", ""),
		kind("a", "b", "c", "d"), kind("a", "b", "c", "D"), kind("a", "b", "C", "d"), kind("a", "b", "c", ""), kind("a", "b", "", "d"), kind("a", "b", "", ""),
		kind("a", "b", "c", "d", "e", "f"), kind("a", "b", "e", "f", "c", "d"), kind("a", "b", "c", "d", "c", "d"),
		kind("a", "b", "c", "d", "e", "f", "g", "h", "i", "j"), kind("a", "b", "c", "d", "e", "f", "g", "h", "i", "j", "k", "l"),
		kind("\n", "\xff", "\x00", strings.Repeat("v", 1000)), kind("\n", "\xff", "\x00", strings.Repeat("v", 1001)),
	}
	for i, a := range all {
		for j, b := range all {
			b.Params = slices.Clone(b.Params)
			if got := impl.KindSame(a, b); got != (i == j) {
				t.Errorf("KindSame(%q, %q) = %v", a, b, got)
			}
		}
	}
	none := kind("a", "b")
	none.Params = []impl.Field{}
	if !impl.KindSame(none, kind("a", "b")) || !impl.KindSame(kind("a", "b"), none) {
		t.Error("no parameters are not the same as no parameters")
	}
}

func TestBoundaryOf(t *testing.T) {
	expectBoundary(t, kind("multipart", "mixed", "boundary", "b0"), "b0")
	expectBoundary(t, kind("multipart", "x", "boundary", "7"), "7")
	expectBoundary(t, kind("multipart", "boundary", "boundary", "boundary"), "boundary")
	expectBoundary(t, kind("multipart", "mixed", "a", "b", "boundary", "AbC", "c", "d"), "AbC")
	expectBoundary(t, kind("multipart", "mixed", "a", "b1", "b", "b2", "c", "b3", "boundary", "b4"), "b4")
	for _, k := range []impl.Kind{
		{}, kind("multipart", "mixed"), kind("multipart", "mixed", "a", "b0"), kind("multipart", "mixed", "boundar", "b0", "boundary-", "b1", "xboundary", "b2"),
		kind("text", "plain", "boundary", "b0"), kind("mixed", "multipart", "boundary", "b0"), kind("multiparts", "x", "boundary", "b0"),
		kind("multipar", "x", "boundary", "b0"), kind("x-multipart", "x", "boundary", "b0"), kind("message", "x", "boundary", "b0"),
		kind("Multipart", "mixed", "boundary", "b0"), kind("multipart", "Mixed", "boundary", "b0"), kind("multipart", "mixed", "Boundary", "b0"),
		kind("multipart", "", "boundary", "b0"), kind("multipart", "mixed", "boundary", "b0", "a", "\n"), kind("multipart", "mixed", "boundary", "b0", "A", "b"),
		kind("multipart", "mixed", "boundary", "b0", "boundary", "b1"), kind("multipart", "mixed", "boundary", "b0", "a", "b", "a", "c"),
		kind("multipart", "mixed", "boundary", "b0", "a", "1", "b", "2", "c", "3", "d", "4"),
		kind("multipart", "mixed", "boundary", "b0", "a", strings.Repeat("v", 41)),
	} {
		expectNoBoundary(t, k)
	}
	for s, want := range map[string]string{
		"multipart/mixed; boundary=b0": "b0", "MULTIPART/a;BOUNDARY=B0": "B0", `multipart/a; a=";boundary=c"; boundary = "d"`: "d",
	} {
		k, ok := impl.ParseKind(s)
		if !ok {
			t.Errorf("ParseKind(%q) is false", s)
		}
		expectBoundary(t, k, want)
	}
}

// boundaryNotValid returns texts that are no boundaries.
func boundaryNotValid() []string {
	all := []string{"", " ", "-", "--", "a-b", "b0 ", " b0", "b 0", "b0-", "b0--", "-b0", "--b0", "b.0", "b_0", "b\n", "\x00", "\xff", "Zo\u00eb", "\u0661"}
	for _, n := range []int{21, 22, 40, 41, 1000} {
		all = append(all, strings.Repeat("b", n))
	}
	for c := range 256 {
		s := string([]byte{byte(c)})
		if !strings.Contains(nameBytes[:62], s) {
			all = append(all, s, s+"b", "b"+s, "b"+s+"b")
		}
	}
	return all
}

// boundaryValid returns boundaries of each byte, and of each length.
func boundaryValid() []string {
	var all []string
	for n := 1; n <= 20; n++ {
		all = append(all, strings.Repeat("b", n), strings.Repeat("9Z", n)[:n])
	}
	for c := range nameBytes[:62] {
		s := nameBytes[c : c+1]
		all = append(all, s, s+"b", "b"+s, "b"+s+"b")
	}
	return all
}

func TestBoundaries(t *testing.T) {
	for _, boundary := range boundaryValid() {
		expectBoundary(t, kind("multipart", "mixed", "boundary", boundary), boundary)
		expectJoined(t, boundary, []string{"a"})
		expectJoined(t, boundary, nil, []string{"", "-" + boundary, "--" + boundary + "-", "--" + boundary + " ", " --" + boundary}, nil)
	}
	for _, boundary := range boundaryNotValid() {
		expectNoBoundary(t, kind("multipart", "mixed", "boundary", boundary))
		expectNotJoined(t, boundary, []string{"a"})
		expectNotJoined(t, boundary, nil)
		expectNotSplit(t, boundary, "--"+boundary, "a", "--"+boundary+"--")
		expectNotSplit(t, boundary, "--"+boundary, "--"+boundary+"--")
	}
}

// equalParts holds all lines against each other.
func equalParts(a [][]string, b [][]string) bool {
	return slices.EqualFunc(a, b, slices.Equal[[]string])
}

// joinByText is another way to join parts.
func joinByText(parts [][]string, boundary string) []string {
	lines := []string{}
	for _, part := range parts {
		lines = slices.Concat(lines, []string{"--" + boundary}, part)
	}
	return slices.Concat(lines, []string{"--" + boundary + "--"})
}

// splitByPlaces is another way to split lines: the places of the beginnings
// and of the end are found first.
func splitByPlaces(lines []string, boundary string) ([][]string, bool) {
	first := slices.Index(lines, "--"+boundary)
	if first < 0 {
		return nil, false
	}
	lines = lines[first+1:]
	end := slices.Index(lines, "--"+boundary+"--")
	if end < 0 {
		return nil, false
	}
	var parts [][]string
	for lines = lines[:end]; ; {
		next := slices.Index(lines, "--"+boundary)
		if next < 0 {
			return append(parts, lines), true
		}
		parts = append(parts, lines[:next])
		lines = lines[next+1:]
	}
}

// expectJoined joins parts, and splits them again, also with other lines
// around them.
func expectJoined(t *testing.T, boundary string, parts ...[]string) {
	t.Helper()
	want := joinByText(parts, boundary)
	got, ok := impl.JoinParts(parts, boundary)
	if !ok || !slices.Equal(got, want) {
		t.Errorf("JoinParts(%q, %q) = %q, %v, want %q", parts, boundary, got, ok, want)
	}
	end := "--" + boundary + "--"
	expectSplit(t, want, boundary, parts...)
	expectSplit(t, slices.Concat([]string{"before", "", end}, want, []string{"", "--" + boundary, "after", end}), boundary, parts...)
}

func expectNotJoined(t *testing.T, boundary string, parts ...[]string) {
	t.Helper()
	if got, ok := impl.JoinParts(parts, boundary); ok || len(got) != 0 {
		t.Errorf("JoinParts(%q, %q) = %q, %v, want none", parts, boundary, got, ok)
	}
}

func expectSplit(t *testing.T, lines []string, boundary string, want ...[]string) {
	t.Helper()
	if got, ok := impl.SplitParts(lines, boundary); !ok || !equalParts(got, want) {
		t.Errorf("SplitParts(%q, %q) = %q, %v, want %q", lines, boundary, got, ok, want)
	}
}

func expectNotSplit(t *testing.T, boundary string, lines ...string) {
	t.Helper()
	if got, ok := impl.SplitParts(lines, boundary); ok || len(got) != 0 {
		t.Errorf("SplitParts(%q, %q) = %q, %v, want none", lines, boundary, got, ok)
	}
}

func TestSplitParts(t *testing.T) {
	const begin, end = "--b0", "--b0--"
	a, b := []string{"a"}, []string{"b"}
	expectSplit(t, []string{begin, "a", end}, "b0", a)
	expectSplit(t, []string{begin, "a", begin, "b", end}, "b0", a, b)
	// A part may have no lines.
	expectSplit(t, []string{begin, end}, "b0", nil)
	expectSplit(t, []string{begin, begin, end}, "b0", nil, nil)
	expectSplit(t, []string{begin, begin, "a", begin, end}, "b0", nil, a, nil)
	expectSplit(t, []string{begin, "", end}, "b0", []string{""})
	expectSplit(t, []string{begin, "", "", begin, "", end}, "b0", []string{"", ""}, []string{""})
	// An end before the first part, or after the first end, ends nothing.
	expectSplit(t, []string{end, begin, "a", end}, "b0", a)
	expectSplit(t, []string{end, end, "x", end, begin, "a", end}, "b0", a)
	expectSplit(t, []string{begin, "a", end, end}, "b0", a)
	expectSplit(t, []string{begin, "a", end, begin, "b", end}, "b0", a)
	expectSplit(t, []string{begin, end, begin, end}, "b0", nil)
	// Lines around the parts are left out, whatever they are.
	expectSplit(t, []string{"x", "", "--b1", "\xff\n", begin, "a", end, "y", "--", ""}, "b0", a)
	expectSplit(t, []string{begin, "a", end, begin}, "b0", a)
	expectSplit(t, []string{begin, "a", end, begin, "b"}, "b0", a)
	for _, lines := range [][]string{
		nil, {""}, {"a"}, {end}, {begin}, {begin, "a"}, {begin, "a", begin}, {begin, "a", begin, "b"}, {end, begin}, {end, begin, "a"}, {end, end},
		{"a", end}, {begin, "--b0---"}, {begin, "--b0-"}, {begin, "--b0-- "}, {begin, "--B0--"}, {begin, "--b1--"}, {begin, "--b00--"}, {begin, "--b--"}, {begin, "----b0"},
		{"--b0 ", end}, {" --b0", end}, {"-b0", end}, {"---b0", end}, {"b0", end}, {"--B0", end}, {"--b00", end}, {"--b", end}, {"--b0\n", end}, {"--b0-", end}, {"--", end},
		{begin + "\n" + end}, {begin, "\n" + end}, {begin, end + "\n"}, {begin, "- -b0--"}, {begin, "--b0 --"},
	} {
		expectNotSplit(t, "b0", lines...)
	}
}

func TestLinesThatAreNearlyMarks(t *testing.T) {
	for _, line := range []string{
		"", "-", "--", "---", "----", "b0", "-b0", "--b", "--b0-", "--b0---", "--b0----", "---b0", "----b0", "--B0", "--B0--", "--b00", "--b00--", "--b01", "--0b",
		"--b0 ", " --b0", "-- b0", "--b0 --", "--b0-- ", " --b0--", "--b0\n", "--b0--\n", "\n--b0", "--b0\r", "--b0\x00", "--b1", "--b1--", "--b0-b0", "--b0--b0", "\xff--b0", "--b0\xff",
	} {
		part := []string{line}
		expectJoined(t, "b0", part)
		expectJoined(t, "b0", []string{"a", line, "b"}, nil, part, part)
		if got, ok := impl.FreshBoundary(part); !ok || got != "b0" {
			t.Errorf("FreshBoundary(%q) = %q, %v", part, got, ok)
		}
	}
}

func TestPartsWithMarks(t *testing.T) {
	for _, boundary := range []string{"b0", "B", "12345678901234567890"} {
		for _, mark := range []string{"--" + boundary, "--" + boundary + "--"} {
			expectNotJoined(t, boundary, []string{mark})
			expectNotJoined(t, boundary, []string{"a", mark})
			expectNotJoined(t, boundary, []string{mark, "a"})
			expectNotJoined(t, boundary, []string{"a"}, []string{"b", mark, "c"})
			expectNotJoined(t, boundary, []string{mark}, []string{"a"})
			expectNotJoined(t, boundary, nil, nil, []string{mark}, nil)
			expectJoined(t, boundary[1:]+"x", []string{mark}, []string{"a", mark})
		}
	}
}

func TestPartsOfNothing(t *testing.T) {
	for _, boundary := range []string{"b0", "", "-"} {
		expectNotJoined(t, boundary)
		expectNotJoined(t, boundary, [][]string{}...)
	}
	expectJoined(t, "b0", nil)
	expectJoined(t, "b0", []string{})
	expectJoined(t, "b0", nil, nil, nil)
	if got, ok := impl.JoinParts([][]string{nil}, "b0"); !ok || !slices.Equal(got, []string{"--b0", "--b0--"}) {
		t.Errorf("JoinParts = %q, %v", got, ok)
	}
}

func TestJoinParts(t *testing.T) {
	for _, test := range []struct {
		parts [][]string
		want  []string
	}{
		{[][]string{{"a"}}, []string{"--x", "a", "--x--"}},
		{[][]string{{"a", "b"}, {"c"}}, []string{"--x", "a", "b", "--x", "c", "--x--"}},
		{[][]string{{}, {""}, {}}, []string{"--x", "--x", "", "--x", "--x--"}},
		{[][]string{{"--y", "--y--"}}, []string{"--x", "--y", "--y--", "--x--"}},
		{[][]string{{"\n", "\xff", "\x00"}, {strings.Repeat("v", 1000)}}, []string{"--x", "\n", "\xff", "\x00", "--x", strings.Repeat("v", 1000), "--x--"}},
	} {
		got, ok := impl.JoinParts(test.parts, "x")
		if !ok || !slices.Equal(got, test.want) {
			t.Errorf("JoinParts(%q) = %q, %v, want %q", test.parts, got, ok, test.want)
		}
		expectSplit(t, test.want, "x", test.parts...)
	}
}

func TestPartsAreJoinedAndSplit(t *testing.T) {
	var parts [][]string
	for _, s := range stringsOver("ad-", 3) {
		part := strings.Split(s, "")
		for i, c := range part {
			part[i] = map[string]string{"a": "a", "d": "", "-": "--b1"}[c]
		}
		parts = append(parts, part)
	}
	for _, first := range parts {
		expectJoined(t, "b0", first)
		expectNotJoinedIf(t, slices.Contains(first, "--b1"), "b1", first)
		for _, second := range parts {
			expectJoined(t, "b0", first, second)
			expectJoined(t, "b0", second, nil, first, second)
			expectNotJoinedIf(t, slices.Contains(slices.Concat(first, second), "--b1"), "b1", first, second)
		}
	}
	many := slices.Repeat([][]string{nil, {"a"}, {"", "b"}}, 1000)
	expectJoined(t, "b0", many...)
	expectJoined(t, "b0", slices.Repeat([]string{"a", ""}, 10000))
}

// expectNotJoinedIf expects that parts are joined only if they have no mark.
func expectNotJoinedIf(t *testing.T, marked bool, boundary string, parts ...[]string) {
	t.Helper()
	if marked {
		expectNotJoined(t, boundary, parts...)
	} else {
		expectJoined(t, boundary, parts...)
	}
}

func TestLinesByPlaces(t *testing.T) {
	pieces := []string{"--b0", "--b0--", "a", "", "--b1"}
	split := 0
	for number := range 7 {
		lines := make([]string, number)
		for code := range pow(len(pieces), number) {
			for i := range lines {
				lines[i] = pieces[code%len(pieces)]
				code /= len(pieces)
			}
			want, ok := splitByPlaces(lines, "b0")
			if !ok {
				expectNotSplit(t, "b0", lines...)
				continue
			}
			split++
			expectSplit(t, lines, "b0", want...)
			expectJoined(t, "b0", want...)
		}
	}
	if split < 1000 {
		t.Errorf("%d of the lines are parts", split)
	}
}

func pow(base int, exponent int) int {
	result := 1
	for range exponent {
		result *= base
	}
	return result
}

func TestPartsWithinParts(t *testing.T) {
	inner := [][]string{{"a"}, nil, {"", "--b1-"}}
	lines, ok := impl.JoinParts(inner, "b0")
	if !ok {
		t.Fatal("the inner parts are not joined")
	}
	expectNotJoined(t, "b0", []string{"x"}, lines)
	outer, ok := impl.FreshBoundary(lines)
	if !ok || outer != "b1" {
		t.Fatalf("FreshBoundary = %q, %v", outer, ok)
	}
	expectJoined(t, outer, []string{"x"}, lines, lines)
	joined, _ := impl.JoinParts([][]string{{"x"}, lines}, outer)
	parts, ok := impl.SplitParts(joined, outer)
	if !ok || len(parts) != 2 {
		t.Fatalf("SplitParts(%q) = %q, %v", joined, parts, ok)
	}
	expectSplit(t, parts[1], "b0", inner...)
}

func expectFresh(t *testing.T, lines []string, want string) {
	t.Helper()
	got, ok := impl.FreshBoundary(lines)
	if !ok || got != want {
		t.Errorf("FreshBoundary(%q) = %q, %v, want %q", lines, got, ok, want)
	}
	expectJoined(t, got, lines)
	expectJoined(t, got, nil, lines, []string{"a"})
}

func TestFreshBoundary(t *testing.T) {
	expectFresh(t, nil, "b0")
	expectFresh(t, []string{}, "b0")
	expectFresh(t, []string{"", "a", "b0", "b1", "\n"}, "b0")
	expectFresh(t, []string{"--b0"}, "b1")
	expectFresh(t, []string{"--b0--"}, "b1")
	expectFresh(t, []string{"--b0", "--b0--"}, "b1")
	expectFresh(t, []string{"--b1"}, "b0")
	expectFresh(t, []string{"--b1", "--b2--"}, "b0")
	expectFresh(t, []string{"a", "--b1--", "", "--b0", "a"}, "b2")
	expectFresh(t, []string{"--b0--", "--b2", "--b3"}, "b1")
	expectFresh(t, []string{"--b2", "--b0", "--b1", "--b4"}, "b3")
	expectFresh(t, []string{"--b00", "--b0-", "--b0 ", "--B0", "---b0", "--b0---", "-b0", "b0--", "--b01", "--a0"}, "b0")
	expectFresh(t, []string{"--b0", "--b01", "--b1 ", "--b1---", "--b10", "--b11--"}, "b1")
	expectFresh(t, []string{"--b0", "--b00--", "--b-1", "--b"}, "b1")
}

func TestFreshBoundaryIsTheFirst(t *testing.T) {
	var begins, ends, mixed []string
	for n := range 100 {
		want := fmt.Sprintf("b%d", n)
		expectFresh(t, begins, want)
		expectFresh(t, ends, want)
		expectFresh(t, mixed, want)
		begins = append(begins, "--"+want)
		ends = append([]string{"--" + want + "--"}, ends...)
		mixed = append(mixed, "a", []string{"--" + want, "--" + want + "--"}[n%2])
	}
	for _, lines := range [][]string{begins, ends, mixed, slices.Concat(begins, ends), append(slices.Clone(begins), "--b100", "--b101--")} {
		if got, ok := impl.FreshBoundary(lines); ok || got != "" {
			t.Errorf("FreshBoundary of all boundaries = %q, %v", got, ok)
		}
	}
	// Each one that is missing is found.
	for n := range 100 {
		expectFresh(t, slices.Delete(slices.Clone(begins), n, n+1), fmt.Sprintf("b%d", n))
	}
	// b99 is the last one, even if b100 is left.
	expectFresh(t, append(slices.Clone(begins[:99]), "--b100"), "b99")
	expectFresh(t, append(slices.Repeat([]string{"--b0--"}, 100000), "--b1"), "b2")
}

func TestKindsLeaveArguments(t *testing.T) {
	params := []impl.Field{field("boundary", "b0"), field("c", "D E"), field("rest", "x")}
	kept := slices.Clone(params)
	for _, k := range []impl.Kind{{Main: "multipart", Sub: "mixed", Params: params[:2]}, {Main: "A", Sub: "b", Params: params[:2]}, {Main: "a", Sub: "b", Params: params}} {
		impl.KindValid(k)
		impl.FormatKind(k)
		impl.BoundaryOf(k)
		impl.KindSame(k, k)
		if !slices.Equal(params, kept) {
			t.Errorf("the argument became %q", params)
		}
	}
	one, _ := impl.ParseKind("a/b; c=d; e=f")
	two, _ := impl.ParseKind("a/b; c=d; e=f")
	one.Params[0] = impl.Field{}
	_ = append(one.Params[:1], impl.Field{}, impl.Field{})
	if !equalKinds(two, kind("a", "b", "c", "d", "e", "f")) {
		t.Errorf("results share memory: %q", two)
	}
}

func TestPartsLeaveArguments(t *testing.T) {
	whole := []string{"x", "--b0", "a", "b", "--b0", "c", "--b0--", "rest", "--b0--"}
	lines := slices.Clone(whole)
	one, _ := impl.SplitParts(lines[:7], "b0")
	two, _ := impl.SplitParts(lines[:7], "b0")
	impl.SplitParts(lines[:6], "b0")
	impl.FreshBoundary(lines[:7])
	overwriteParts(one)
	if !slices.Equal(lines, whole) {
		t.Errorf("the argument became %q", lines)
	}
	if !equalParts(two, [][]string{{"a", "b"}, {"c"}}) {
		t.Errorf("results share memory: %q", two)
	}
	// The parts of one result share none either.
	_ = append(two[0], "y", "z")
	_ = append(two[0][:1], "y", "z")
	if !slices.Equal(two[1], []string{"c"}) {
		t.Errorf("parts share memory: %q", two)
	}
	parts := [][]string{{"a", "rest"}, {"b", "rest"}, {"rest"}}
	given := [][]string{parts[0][:1], parts[1][:1], parts[2]}
	joined, _ := impl.JoinParts(given[:2], "b0")
	impl.JoinParts(given, "")
	again, _ := impl.JoinParts(given[:2], "b0")
	_ = append(joined, "y")
	for i := range joined {
		joined[i] = "y"
	}
	if !equalParts(parts, [][]string{{"a", "rest"}, {"b", "rest"}, {"rest"}}) || !equalParts(given, [][]string{{"a"}, {"b"}, {"rest"}}) {
		t.Errorf("JoinParts changed its argument to %q", parts)
	}
	if !slices.Equal(again, []string{"--b0", "a", "--b0", "b", "--b0--"}) {
		t.Errorf("results share memory: %q", again)
	}
}

// overwriteParts writes into all memory that a result can reach.
func overwriteParts(parts [][]string) {
	for i := range parts {
		all := parts[i][:cap(parts[i])]
		for j := range all {
			all[j] = "overwritten"
		}
	}
	all := parts[:cap(parts)]
	for i := range all {
		all[i] = nil
	}
}
