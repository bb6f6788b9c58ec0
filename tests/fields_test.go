package tests

import (
	"regexp"
	"slices"
	"strings"
	"testing"

	"loop.example/mailwire/impl"
)

// nameBytes is written out here, as atomBytes is.
const nameBytes = "ABCDEFGHIJKLMNOPQRSTUVWXYZabcdefghijklmnopqrstuvwxyz0123456789-"

func field(name string, value string) impl.Field {
	return impl.Field{Name: name, Value: value}
}

// numbered returns fields of different names.
func numbered(number int) []impl.Field {
	var list []impl.Field
	for i := range number {
		list = append(list, field("F"+strings.Repeat("x", i), "v"))
	}
	return list
}

// expectFold holds the lines of a field against what is wanted, alone and with
// other fields, and reads them back.
func expectFold(t *testing.T, f impl.Field, want ...string) {
	t.Helper()
	if !impl.FieldValid(f) {
		t.Errorf("FieldValid(%q) = false", f)
	}
	if got := impl.FoldField(f); !slices.Equal(got, want) {
		t.Errorf("FoldField(%q) = %q, want %q", f, got, want)
	}
	expectFields(t, want, f)
	between := field("X", "y")
	lines := slices.Concat([]string{"X: y"}, want, want, []string{"X: y"})
	if got, ok := impl.FoldFields([]impl.Field{between, f, f, between}); !ok || !slices.Equal(got, lines) {
		t.Errorf("FoldFields = %q, %v, want %q", got, ok, lines)
	}
	expectFields(t, lines, between, f, f, between)
}

// expectNoFold holds a field that is not valid against all that tells of it.
func expectNoFold(t *testing.T, f impl.Field) {
	t.Helper()
	if impl.FieldValid(f) {
		t.Errorf("FieldValid(%q) = true", f)
	}
	if got := impl.FoldField(f); len(got) != 0 {
		t.Errorf("FoldField(%q) = %q", f, got)
	}
	x := field("X", "y")
	for _, list := range [][]impl.Field{{f}, {f, x}, {x, f}, {x, f, x}} {
		if got, ok := impl.FoldFields(list); ok || len(got) != 0 {
			t.Errorf("FoldFields(%q) = %q, %v", list, got, ok)
		}
		expectNoPut(t, list, x)
		expectNoPut(t, list, field("Z", ""))
	}
	expectNoPut(t, nil, f)
	expectNoPut(t, []impl.Field{x}, f)
}

func expectFields(t *testing.T, lines []string, want ...impl.Field) {
	t.Helper()
	if got, ok := impl.ReadFields(lines); !ok || !slices.Equal(got, want) {
		t.Errorf("ReadFields(%q) = %q, %v, want %q", lines, got, ok, want)
	}
}

func expectNoFields(t *testing.T, lines ...string) {
	t.Helper()
	if got, ok := impl.ReadFields(lines); ok || len(got) != 0 {
		t.Errorf("ReadFields(%q) = %q, %v, want none", lines, got, ok)
	}
}

func expectPut(t *testing.T, list []impl.Field, f impl.Field, want ...impl.Field) {
	t.Helper()
	if got, ok := impl.PutField(list, f); !ok || !slices.Equal(got, want) {
		t.Errorf("PutField(%q, %q) = %q, %v, want %q", list, f, got, ok, want)
	}
}

func expectNoPut(t *testing.T, list []impl.Field, f impl.Field) {
	t.Helper()
	if got, ok := impl.PutField(list, f); ok || len(got) != 0 {
		t.Errorf("PutField(%q, %q) = %q, %v, want none", list, f, got, ok)
	}
}

func TestLimitsOfFields(t *testing.T) {
	if impl.MaxName != 30 || impl.MaxValue != 150 || impl.MaxFields != 20 || impl.FoldWidth != 40 {
		t.Errorf("MaxName = %d, MaxValue = %d, MaxFields = %d, FoldWidth = %d", impl.MaxName, impl.MaxValue, impl.MaxFields, impl.FoldWidth)
	}
}

func TestBytesOfNames(t *testing.T) {
	for c := range 256 {
		s := string([]byte{byte(c)})
		for _, name := range []string{s, s + "a", "a" + s, "a" + s + "b", "A-" + s + "-9"} {
			want := strings.Contains(nameBytes, s) && strings.Contains(nameBytes[:52], name[:1])
			if got := impl.FieldValid(field(name, "v")); got != want {
				t.Errorf("FieldValid of Name %q = %v", name, got)
			}
			if _, got := impl.ReadFields([]string{name + ": v"}); got != want && c != ':' {
				t.Errorf("ReadFields of Name %q = %v", name, got)
			}
		}
	}
}

func TestNamesThatAreNotValid(t *testing.T) {
	for _, name := range []string{
		"", " ", "-", "1", "-a", "9a", " a", "a ", "a b", "a:", ":", "a:b", "a.b", "a_b", `"a"`, "a\n", "\x00", "Zo\u00eb", "\u212a", "a\xff",
		strings.Repeat("n", 31), strings.Repeat("n", 100000), strings.Repeat("n", 29) + "\u00eb",
	} {
		expectNoFold(t, field(name, "v"))
		expectNoFold(t, field(name, ""))
	}
}

func TestLengthOfNames(t *testing.T) {
	for n := 0; n <= 40; n++ {
		name := strings.Repeat("n", n)
		if n == 0 || n > 30 {
			expectNoFold(t, field(name, "v"))
			expectNoFields(t, name+": v")
			continue
		}
		expectFold(t, field(name, "v"), name+": v")
		expectFold(t, field(name, ""), name+":")
		expectFold(t, field("N"+strings.Repeat("-", n-1), "v"), "N"+strings.Repeat("-", n-1)+": v")
	}
}

func TestBytesOfValues(t *testing.T) {
	for c := range 256 {
		s := string([]byte{byte(c)})
		for _, value := range []string{s, s + "a", "a" + s, "a" + s + "b"} {
			want := c >= 32 && c <= 126 && (c != 32 || value == "a b")
			if got := impl.FieldValid(field("A", value)); got != want {
				t.Errorf("FieldValid of Value %q = %v", value, got)
			}
			if want {
				expectFold(t, field("A", value), "A: "+value)
			} else {
				expectNoFold(t, field("A", value))
			}
			// The spaces at the ends of what is read do not matter.
			if _, got := impl.ReadFields([]string{"A: " + value}); got != (want || c == 32) {
				t.Errorf("ReadFields of Value %q = %v", value, got)
			}
		}
	}
	for _, value := range []string{" ", "  ", " a", "a ", " a ", "a  ", "\ta", "a\r\n b", "Zo\u00eb", "\xff"} {
		expectNoFold(t, field("A", value))
	}
}

func TestLengthOfValues(t *testing.T) {
	for n := 148; n <= 152; n++ {
		whole := field("A", strings.Repeat("v", n))
		words := field("A", strings.Repeat("v ", n/2-2)+strings.Repeat("w", n-n/2*2+4))
		if n > 150 {
			expectNoFold(t, whole)
			expectNoFold(t, words)
			expectNoFields(t, "A:"+whole.Value)
			expectNoFields(t, "A:"+whole.Value[:100], " "+whole.Value[101:])
			continue
		}
		if len(words.Value) != n {
			t.Fatalf("a value has %d bytes", len(words.Value))
		}
		expectFold(t, whole, "A: "+whole.Value)
		expectFields(t, []string{"A:", "  " + whole.Value[:n-2] + " w   "}, field("A", whole.Value[:n-2]+" w"))
		expectFields(t, impl.FoldField(words), words)
	}
	for _, value := range []string{strings.Repeat("v", 200), strings.Repeat("v", 201), strings.Repeat("v ", 100000) + "v"} {
		expectNoFold(t, field("A", value))
		expectNoFields(t, "A: "+value)
	}
	// The spaces that are left out do not count.
	expectFields(t, []string{"A:" + strings.Repeat(" ", 500) + strings.Repeat("v", 150) + strings.Repeat(" ", 500)}, field("A", strings.Repeat("v", 150)))
}

func TestFoldField(t *testing.T) {
	expectFold(t, field("Subject", "hello there, this is a longer value"), "Subject: hello there, this is a longer", " value")
	expectFold(t, field("Subject", "a"), "Subject: a")
	expectFold(t, field("A", "b: c"), "A: b: c")
	expectFold(t, field("A", ":"), "A: :")
	tens := "123456789 123456789 123456789 123456789 123456789 123456789 123456789 123456789 1"
	expectFold(t, field("A", tens), "A: 123456789 123456789 123456789", " 123456789 123456789 123456789 123456789", " 123456789 1")
	expectFold(t, field("Ab-cd-e", tens), "Ab-cd-e: 123456789 123456789 123456789", " 123456789 123456789 123456789 123456789", " 123456789 1")
	ones := strings.Repeat("x ", 74) + "x"
	line := strings.Repeat(" x", 20)
	expectFold(t, field("A", ones), "A: x"+strings.Repeat(" x", 18), line, line, strings.Repeat(" x", 16))
}

func TestFoldFieldWithoutValue(t *testing.T) {
	for _, name := range []string{"A", "z", "X-Empty", strings.Repeat("n", 29), strings.Repeat("n", 30)} {
		expectFold(t, field(name, ""), name+":")
		for _, spaces := range []string{"", " ", "     ", strings.Repeat(" ", 1000)} {
			expectFields(t, []string{name + ":" + spaces}, field(name, ""))
			expectFields(t, []string{name + ":", " " + spaces}, field(name, ""))
			expectFields(t, []string{name + ":", " " + spaces, "  ", "B: c"}, field(name, ""), field("B", "c"))
		}
	}
	if v, ok := impl.GetField([]impl.Field{field("A", ""), field("a", "b")}, "a"); !ok || v != "" {
		t.Errorf("GetField of an empty value = %q, %v", v, ok)
	}
}

// A line that has as many bytes as its limit is not broken, and the space at
// which a longer one is broken may stand right behind that many.
func TestFoldWidth(t *testing.T) {
	for n := 1; n <= 35; n++ {
		for _, rest := range []string{"z", "yz"} {
			start := "Abc: " + strings.Repeat("x", n)
			value := start[5:] + " m " + rest
			lines := []string{start + " m " + rest}
			switch {
			case len(lines[0]) <= 40:
			case len(start+" m") <= 40:
				lines = []string{start + " m", " " + rest}
			default:
				lines = []string{start, " m " + rest}
			}
			expectFold(t, field("Abc", value), lines...)
		}
	}
	x, y := strings.Repeat("x", 36), strings.Repeat("y", 36)
	expectFold(t, field("A", x), "A: "+x)
	expectFold(t, field("A", x+"x"), "A: "+x+"x")
	expectFold(t, field("A", x+"xx"), "A: "+x+"xx")
	expectFold(t, field("A", x[:35]+" b"), "A: "+x[:35]+" b") // 40 bytes
	expectFold(t, field("A", x+" b"), "A: "+x, " b")          // 41 bytes, broken at 39
	expectFold(t, field("A", x+"x b"), "A: "+x+"x", " b")     // broken at 40
	expectFold(t, field("A", x+"xx b"), "A: "+x+"xx", " b")   // broken at 41, as there is none before
	expectFold(t, field("A", "c "+x+" b"), "A: c", " "+x+" b")
	expectFold(t, field("A", "c "+x[:34]+" b"), "A: c "+x[:34], " b")      // broken at 39
	expectFold(t, field("A", "c "+x[:35]+" b"), "A: c "+x[:35], " b")      // broken at 40
	expectFold(t, field("A", "c "+x[:36]+" bb"), "A: c", " "+x[:36]+" bb") // 41 is too far
	expectFold(t, field("A", x+" "+y+" bb"), "A: "+x, " "+y+" bb")         // a rest of 40 bytes
	expectFold(t, field("A", x+" "+y+" bbb"), "A: "+x, " "+y, " bbb")      // one of 41, broken at 37
	expectFold(t, field("A", x+" "+y+"yy b"), "A: "+x, " "+y+"yy", " b")   // broken at 39
	expectFold(t, field("A", x+" "+y+"yyy b"), "A: "+x, " "+y+"yyy", " b")
	expectFold(t, field("A", x+" "+y+"yyyy b"), "A: "+x, " "+y+"yyyy", " b")
	expectFold(t, field("A", x+" b "+y+"y bb"), "A: "+x, " b "+y+"y", " bb") // broken at 39, then at 40
	expectFold(t, field("A", x+" b "+y+"yy bb"), "A: "+x, " b", " "+y+"yy", " bb")
}

func TestValueThatCannotBeBroken(t *testing.T) {
	long := strings.Repeat("x", 150)
	for _, name := range []string{"A", strings.Repeat("n", 30)} {
		for _, n := range []int{1, 7, 8, 9, 37, 38, 39, 40, 41, 149, 150} {
			expectFold(t, field(name, long[:n]), name+": "+long[:n])
		}
		// The space behind the colon is no place to break at.
		expectFold(t, field(name, long[:60]+" b"), name+": "+long[:60], " b")
		expectFold(t, field(name, "a "+long[:60]+" b c"), name+": a", " "+long[:60], " b c")
		expectFold(t, field(name, long[:60]+" "+long[:60]), name+": "+long[:60], " "+long[:60])
		expectFold(t, field(name, long[:60]+"   "+long[:60]), name+": "+long[:60]+"   "+long[:60])
	}
	expectFold(t, field("A", strings.Repeat("a  ", 49)+"a"), "A: "+strings.Repeat("a  ", 49)+"a")
	expectFold(t, field("A", "a"+strings.Repeat(" ", 148)+"a"), "A: a"+strings.Repeat(" ", 148)+"a")
}

func TestSpacesTogether(t *testing.T) {
	x := strings.Repeat("x", 51)
	expectFold(t, field("A", x+"  b c d"), "A: "+x+"  b", " c d")
	expectFold(t, field("A", "b  "+x), "A: b  "+x)
	expectFold(t, field("A", "b  c "+x+"  d"), "A: b  c", " "+x+"  d")
	expectFold(t, field("A", "b c  "+x), "A: b", " c  "+x)
	expectFold(t, field("A", x+" b  c   d"+x[:35]), "A: "+x, " b  c   d"+x[:35])
	y := x[:33]
	for _, spaces := range []string{"  ", "   ", "     "} {
		expectFold(t, field("A", "b "+y+spaces+"c"+y), "A: b", " "+y+spaces+"c"+y)
		expectFold(t, field("A", y[:20]+spaces+y[:20]+spaces+"c d"), "A: "+y[:20]+spaces+y[:20]+spaces+"c", " d")
		expectFields(t, []string{"A: b", spaces + "c"}, field("A", "b"+spaces+"c"))
		expectFields(t, []string{"A: b" + spaces, spaces + "c" + spaces}, field("A", "b"+spaces+spaces+"c"))
		expectFields(t, []string{"A: b", " ", spaces, " ", "c:"}, field("A", "b"), field("c", ""))
		expectFields(t, []string{"A: b", " ", spaces, " c"}, field("A", "b "+spaces+" c"))
		expectFields(t, []string{"A:" + spaces, spaces + "c"}, field("A", "c"))
	}
}

// pieceForm is what a value is folded between.
var pieceForm = regexp.MustCompile(`[^ ]+(  +[^ ]+)*`)

// foldByWords is another way to fold: the pieces of a value are put on a line
// as long as there is room for them.
func foldByWords(f impl.Field) []string {
	pieces := pieceForm.FindAllString(f.Value, -1)
	if len(pieces) == 0 {
		return []string{f.Name + ":"}
	}
	lines := []string{f.Name + ": " + pieces[0]}
	for _, piece := range pieces[1:] {
		last := &lines[len(lines)-1]
		if len(*last)+1+len(piece) > 40 {
			lines = append(lines, " "+piece)
		} else {
			*last += " " + piece
		}
	}
	return lines
}

func TestFieldsAreReadBack(t *testing.T) {
	pieces := []string{" ", "a", "b:", strings.Repeat("c", 17), strings.Repeat("d", 37)}
	for _, value := range stringsOf(pieces, 7) {
		f := field("X", value)
		if strings.Trim(value, " ") != value || len(value) > 150 {
			if impl.FieldValid(f) || len(impl.FoldField(f)) != 0 {
				t.Errorf("a field of %q is taken for valid", value)
			}
			continue
		}
		for _, name := range []string{"X", "Long-name-0123456789"} {
			f.Name = name
			got, want := impl.FoldField(f), foldByWords(f)
			if !slices.Equal(got, want) {
				t.Errorf("FoldField(%q) = %q, want %q", f, got, want)
			}
			expectFields(t, got, f)
		}
	}
}

// Words of all lengths shift the places at which lines are broken.
func TestFieldsOfManyWordsAreReadBack(t *testing.T) {
	var list []impl.Field
	for seed := range 4000 {
		value := "v"
		for i := seed; len(value) < 110; i = (i*37 + 11) % 5003 {
			value += strings.Repeat(" ", 1+i%7/5) + strings.Repeat("w", 1+i%19)
		}
		f := field("N"+strings.Repeat("n", seed%30), value)
		if got, want := impl.FoldField(f), foldByWords(f); !slices.Equal(got, want) {
			t.Errorf("FoldField(%q) = %q, want %q", f, got, want)
		}
		list = append(list, f)
		if len(list) < 20 {
			continue
		}
		lines, ok := impl.FoldFields(list)
		if !ok {
			t.Errorf("FoldFields(%q) = false", list)
		}
		expectFields(t, lines, list...)
		list = nil
	}
}

func TestReadFields(t *testing.T) {
	expectFields(t, nil)
	expectFields(t, []string{})
	expectFields(t, []string{"A:b"}, field("A", "b"))
	expectFields(t, []string{"A:   b  c   "}, field("A", "b  c"))
	expectFields(t, []string{"A: b", "A: b", "a: B"}, field("A", "b"), field("A", "b"), field("a", "B"))
	expectFields(t, []string{"A:b:c", "B: : ", "C:::"}, field("A", "b:c"), field("B", ":"), field("C", "::"))
	expectFields(t, []string{"A: b", " c: d"}, field("A", "b c: d"))
	expectFields(t, []string{"A:", " b", " c"}, field("A", "b c"))
	expectFields(t, []string{"A: b", "  c", "B:", "   d  ", " e"}, field("A", "b  c"), field("B", "d   e"))
	expectFields(t, []string{"To:  ann@x.org ", "Subject: a", " b", "   c", "X-Empty:"}, field("To", "ann@x.org"), field("Subject", "a b   c"), field("X-Empty", ""))
	// However a value was divided, it is the same one.
	whole := "A: one two  three four"
	for at := 2; at < len(whole); at++ {
		if whole[at] == ' ' {
			expectFields(t, []string{whole[:at], whole[at:]}, field("A", whole[3:]))
		}
	}
}

func TestReadFieldsOfOtherLines(t *testing.T) {
	for _, lines := range [][]string{{" a: b"}, {" "}, {" ", "a: b"}, {" :"}, {"  a:"}, {" a", "b: c"}} {
		expectNoFields(t, lines...)
	}
	for _, lines := range [][]string{
		{""}, {"a"}, {"a b"}, {"a", " b"}, {"a", "b: c"}, {"a: b", "c"}, {"a: b", ""}, {"", "a: b"}, {"a: b", "", "c: d"}, {"a:", "", " b"}, // no colon
		{"a", " b: c"}, {"a", " : b"}, {"a", " :"}, {"a ", " b:c"}, {"a: b", "c", " d: e"}, // a colon behind a fold
		{":"}, {": c"}, {"a b: c"}, {"a : b"}, {"1a: b"}, {"-: b"}, {"a.b: c"}, {"a_: b"}, {"a\t: b"}, {"Zo\u00eb: b"}, {"\x00: b"}, // no name
		{"a: \t"}, {"a:\tb"}, {"a: b\t"}, {"a: b\r"}, {"a: b\n"}, {"a: b\n c"}, {"a: Zo\u00eb"}, {"a: b", " \xff"}, {"a: b", " c\x7f", " d"}, // no text
		{"\ta: b"}, {"a: b", "\tc"}, {"a: b", "\n c"}, {"a: b", "\u00a0c"}, // other spaces do not fold
		{strings.Repeat(":", 100000)}, {strings.Repeat("a", 100000)}, {strings.Repeat("n", 31) + ":"},
	} {
		expectNoFields(t, lines...)
		expectNoFields(t, append([]string{"X: y"}, lines...)...)
	}
}

var fieldForm = regexp.MustCompile(`^([A-Za-z][A-Za-z0-9-]{0,29}): *((?:[!-~](?:[ -~]{0,148}[!-~])?)?) *$`)

// readByPattern is another way to read fields: it takes out the folds, and
// holds what is left against a pattern.
func readByPattern(lines []string) ([]impl.Field, bool) {
	var list []impl.Field
	for _, line := range strings.Split(strings.ReplaceAll(strings.Join(lines, "\n"), "\n ", " "), "\n") {
		found := fieldForm.FindStringSubmatch(line)
		if found == nil {
			return nil, false
		}
		list = append(list, field(found[1], found[2]))
	}
	return list, true
}

func TestLinesOfFieldsHaveOneForm(t *testing.T) {
	lines := stringsOf([]string{"a", "1", ":", " "}, 3)
	lines = append(lines, " "+strings.Repeat("v", 149), "a:"+strings.Repeat("v", 149), strings.Repeat("n", 30)+":", strings.Repeat("n", 31)+": v", "a: \xff")
	read := 0
	for _, first := range lines {
		for _, second := range lines {
			for _, third := range []string{"b: c", " ", " d", "", "e"} {
				both := []string{first, second, third}
				want, found := readByPattern(both)
				if !found {
					expectNoFields(t, both...)
					continue
				}
				read++
				expectFields(t, both, want...)
				folded, ok := impl.FoldFields(want)
				if !ok {
					t.Errorf("FoldFields(%q) = false", want)
				}
				expectFields(t, folded, want...)
			}
		}
	}
	if read < 500 {
		t.Errorf("%d of the lines are fields", read)
	}
}

func TestNumberOfFields(t *testing.T) {
	for n := 0; n <= 25; n++ {
		list := numbered(n)
		var lines []string
		for _, f := range list {
			lines = append(lines, f.Name+": v")
		}
		last := field("Last", "w")
		if n > 20 {
			if got, ok := impl.FoldFields(list); ok || len(got) != 0 {
				t.Errorf("FoldFields of %d fields = %q, %v", n, got, ok)
			}
			expectNoFields(t, lines...)
			expectNoPut(t, list, last)
			expectNoPut(t, list, field("F", "w"))
			continue
		}
		if got, ok := impl.FoldFields(list); !ok || !slices.Equal(got, lines) {
			t.Errorf("FoldFields of %d fields = %q, %v", n, got, ok)
		}
		expectFields(t, lines, list...)
		if n == 20 {
			expectNoPut(t, list, last)
		} else {
			expectPut(t, list, last, append(slices.Clone(list), last)...)
		}
		if n > 0 {
			changed := slices.Clone(list)
			changed[n-1].Value = "w"
			expectPut(t, list, field(strings.ToLower(list[n-1].Name), "w"), changed...)
		}
	}
	// Folds do not count as fields.
	folded := slices.Repeat([]string{"A:", " b", " c", " d"}, 20)
	expectFields(t, folded, slices.Repeat([]impl.Field{field("A", "b c d")}, 20)...)
	expectNoFields(t, append(folded, "A:")...)
	expectNoFields(t, slices.Repeat([]string{"A:"}, 100000)...)
	expectNoFields(t, append([]string{"A:"}, slices.Repeat([]string{" b"}, 100000)...)...)
	expectFields(t, append([]string{"A:"}, slices.Repeat([]string{" "}, 100000)...), field("A", ""))
}

func TestFieldsSame(t *testing.T) {
	a, b := field("A", "x"), field("B", "x")
	invalid := field("\xff", " ")
	for _, list := range [][]impl.Field{nil, {a}, {a, b}, {b, a}, {a, a}, {{}}, {invalid, {}}, numbered(30)} {
		if !impl.FieldsSame(list, slices.Clone(list)) {
			t.Errorf("FieldsSame(%q) with itself = false", list)
		}
	}
	if !impl.FieldsSame(nil, []impl.Field{}) || !impl.FieldsSame([]impl.Field{}, nil) {
		t.Error("FieldsSame tells nil from empty")
	}
	for _, pair := range [][2][]impl.Field{
		{nil, {a}}, {nil, {{}}}, {{a}, {b}}, {{a}, {a, b}}, {{a, b}, {b, a}}, {{a}, {a, a}}, {{a, b}, {a, field("B", "y")}},
		{{a}, {field("a", "x")}}, {{a}, {field("A", "X")}}, {{a}, {field("A", "")}}, {{a}, {field("A", "x ")}}, {{field("ab", "c")}, {field("a", "bc")}},
		{{invalid}, {field("\xff", "")}}, {{invalid}, {{}}}, {numbered(30), numbered(31)},
	} {
		if impl.FieldsSame(pair[0], pair[1]) || impl.FieldsSame(pair[1], pair[0]) {
			t.Errorf("FieldsSame(%q, %q) = true", pair[0], pair[1])
		}
	}
}

// mixed has names that differ in capital letters, and names that are none.
func mixed() []impl.Field {
	return []impl.Field{
		field("To", "1"), field("SUBJECT", "2"), field("to", " 3 "), field("", "4"), field("Zo\u00eb\n", "5"),
		field("tO", ""), field("\u212a", "7"), field("Subject", "8"), field("[", "9"), field("\xc9", "10"),
	}
}

func TestNamesDoNotDependOnCapitalLetters(t *testing.T) {
	for _, c := range []struct {
		name, value string
		places      []int
	}{
		{"To", "1", []int{0, 2, 5}}, {"to", "1", []int{0, 2, 5}}, {"TO", "1", []int{0, 2, 5}}, {"tO", "1", []int{0, 2, 5}},
		{"subject", "2", []int{1, 7}}, {"sUBJECt", "2", []int{1, 7}}, {"", "4", []int{3}}, {"ZO\u00eb\n", "5", []int{4}},
		{"\u212a", "7", []int{6}}, {"[", "9", []int{8}}, {"\xc9", "10", []int{9}},
		{"k", "", nil}, {"{", "", nil}, {"\xe9", "", nil}, {" to", "", nil}, {"to ", "", nil}, {"To:", "", nil}, {"t", "", nil}, {"tob", "", nil}, {"Cc", "", nil},
	} {
		value, found := impl.GetField(mixed(), c.name)
		if value != c.value || found != (len(c.places) > 0) {
			t.Errorf("GetField(%q) = %q, %v, want %q", c.name, value, found, c.value)
		}
		if got := impl.CountField(mixed(), c.name); got != len(c.places) {
			t.Errorf("CountField(%q) = %d, want %d", c.name, got, len(c.places))
		}
		var want []impl.Field
		for i, f := range mixed() {
			if !slices.Contains(c.places, i) {
				want = append(want, f)
			}
		}
		if got := impl.DropField(mixed(), c.name); !slices.Equal(got, want) {
			t.Errorf("DropField(%q) = %q, want %q", c.name, got, want)
		}
	}
}

func TestNamesOfNothing(t *testing.T) {
	for _, list := range [][]impl.Field{nil, {}} {
		if v, ok := impl.GetField(list, "A"); ok || v != "" {
			t.Errorf("GetField of no fields = %q, %v", v, ok)
		}
		if impl.CountField(list, "A") != 0 || len(impl.DropField(list, "A")) != 0 || impl.CountField(list, "") != 0 {
			t.Error("no fields have a name")
		}
		expectPut(t, list, field("A", ""), field("A", ""))
		if got, ok := impl.FoldFields(list); !ok || len(got) != 0 {
			t.Errorf("FoldFields of no fields = %q, %v", got, ok)
		}
	}
	all := []impl.Field{field("a", "1"), field("A", "2")}
	if got := impl.DropField(all, "A"); len(got) != 0 {
		t.Errorf("DropField of all fields = %q", got)
	}
	many := slices.Repeat(all, 1000)
	if impl.CountField(many, "a") != 2000 || len(impl.DropField(many, "b")) != 2000 {
		t.Error("more than twenty fields are not counted")
	}
}

func TestPutField(t *testing.T) {
	to, subject, again := field("To", "a@b"), field("Subject", "s"), field("TO", "c@d")
	list := []impl.Field{to, subject, again}
	expectPut(t, list, field("to", "e@f"), field("To", "e@f"), subject, again)
	expectPut(t, list, field("tO", ""), field("To", ""), subject, again)
	expectPut(t, list, field("SUBJECT", "s"), to, subject, again)
	expectPut(t, list, field("T", "x"), to, subject, again, field("T", "x"))
	expectPut(t, list, field("To-", "x"), to, subject, again, field("To-", "x"))
	expectPut(t, list[1:], field("to", "e@f"), subject, field("TO", "e@f"))
	for _, f := range []impl.Field{{}, field("", "x"), field("to ", "x"), field("To", " x"), field("To", "x\n"), field("To", strings.Repeat("x", 151)), field("Cc", "x ")} {
		expectNoPut(t, list, f)
	}
	// A field that would be given another value has to be valid as well.
	expectNoPut(t, []impl.Field{field("To", " ")}, to)
	expectNoPut(t, []impl.Field{to, field("Cc", "\xff")}, to)
	longest := field(strings.Repeat("n", 30), strings.Repeat("v", 150))
	expectPut(t, list, longest, to, subject, again, longest)
	expectPut(t, []impl.Field{longest}, field(strings.Repeat("N", 30), "v"), field(strings.Repeat("n", 30), "v"))
}

func TestFieldsLeaveArguments(t *testing.T) {
	whole := []impl.Field{field("A", "1"), field("B", "2"), field("a", "3"), field("Rest", "4")}
	list := slices.Clone(whole)
	added, _ := impl.PutField(list[:3], field("C", "5"))
	changed, _ := impl.PutField(list[:3], field("b", "6"))
	dropped := impl.DropField(list[:3], "B")
	kept := impl.DropField(list[:3], "none")
	impl.CountField(list[:3], "A")
	impl.FoldFields(list[:3])
	if !slices.Equal(list, whole) {
		t.Errorf("the argument became %q", list)
	}
	for _, result := range [][]impl.Field{added, changed, dropped, kept} {
		_ = append(result, field("D", "7"))
		for i := range result {
			result[i] = impl.Field{}
		}
	}
	if !slices.Equal(list, whole) {
		t.Errorf("a result shares memory with the argument, which became %q", list)
	}
	lines := []string{"A: b", " c", "D:", " e"}
	read, _ := impl.ReadFields(lines[:2])
	_ = append(read, impl.Field{})
	if !slices.Equal(lines, []string{"A: b", " c", "D:", " e"}) {
		t.Errorf("ReadFields changed its argument to %q", lines)
	}
	one, two := impl.FoldField(whole[0]), impl.FoldField(whole[0])
	one[0] = ""
	_ = append(one, "x")
	if !slices.Equal(two, []string{"A: 1"}) {
		t.Errorf("results share memory: %q", two)
	}
}
