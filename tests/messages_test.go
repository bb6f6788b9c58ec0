package tests

import (
	"fmt"
	"math/rand"
	"regexp"
	"slices"
	"strings"
	"testing"

	"loop.example/mailwire/impl"
)

// onePart makes a part without fields that has lines.
func onePart(body ...string) impl.Part {
	return impl.Part{Body: body}
}

// fieldPart makes a part that has one field and lines.
func fieldPart(name string, value string, body ...string) impl.Part {
	return impl.Part{Fields: []impl.Field{field(name, value)}, Body: body}
}

// kindOf is the field of a part of many parts.
func kindOf(boundary string) impl.Field {
	return field("Content-Type", "multipart/x; boundary="+boundary)
}

// manyParts makes a part that has Kids.
func manyParts(boundary string, kids ...impl.Part) impl.Part {
	return impl.Part{Fields: []impl.Field{kindOf(boundary)}, Kids: kids}
}

// withFields gives a part fields before its own.
func withFields(p impl.Part, fields ...impl.Field) impl.Part {
	p.Fields = slices.Concat(fields, p.Fields)
	return p
}

// deepPart makes a part with a number of parts within each other.
func deepPart(depth int, p impl.Part) impl.Part {
	for i := 1; i < depth; i++ {
		p = manyParts(fmt.Sprintf("d%d", i), p)
	}
	return p
}

// equalMessages holds all levels against each other without the program.
func equalMessages(a impl.Part, b impl.Part) bool {
	return slices.Equal(a.Fields, b.Fields) && slices.Equal(a.Body, b.Body) && slices.EqualFunc(a.Kids, b.Kids, equalMessages)
}

// copyMessage makes a part in new memory.
func copyMessage(p impl.Part) impl.Part {
	c := impl.Part{Fields: slices.Clone(p.Fields), Body: slices.Clone(p.Body)}
	for _, kid := range p.Kids {
		c.Kids = append(c.Kids, copyMessage(kid))
	}
	return c
}

// noPart reports whether a part is the zero value.
func noPart(p impl.Part) bool {
	return len(p.Fields) == 0 && len(p.Body) == 0 && len(p.Kids) == 0
}

var (
	lineForm     = regexp.MustCompile(`\A[ -~]{0,200}\z`)
	boundaryForm = regexp.MustCompile(`\A[A-Za-z0-9]{1,20}\z`)
)

// boundaryByForm is another way to find the boundary of fields; it is empty if
// there is none.
func boundaryByForm(fields []impl.Field) string {
	at := slices.IndexFunc(fields, func(f impl.Field) bool { return strings.ToLower(f.Name) == "content-type" })
	if at < 0 {
		return ""
	}
	k, ok := readKindByForm(fields[at].Value)
	if !ok || k.Main != "multipart" {
		return ""
	}
	for _, param := range k.Params {
		if param.Name == "boundary" && boundaryForm.MatchString(param.Value) {
			return param.Value
		}
	}
	return ""
}

// writeByHand is another way to check a part and to write its lines; it is at
// a level, counted from 1.
func writeByHand(p impl.Part, level int) ([]string, bool) {
	var lines []string
	fits := level <= 3 && len(p.Fields) <= 20
	for _, f := range p.Fields {
		found := fieldForm.FindStringSubmatch(f.Name + ":" + f.Value)
		fits = fits && found != nil && found[1] == f.Name && found[2] == f.Value
		lines = append(lines, foldByWords(f)...)
	}
	boundary := boundaryByForm(p.Fields)
	if boundary == "" {
		fits = fits && len(p.Kids) == 0 && len(p.Body) <= 30
		for _, line := range p.Body {
			fits = fits && lineForm.MatchString(line)
		}
		return slices.Concat(lines, []string{""}, p.Body), fits
	}
	fits = fits && len(p.Body) == 0 && len(p.Kids) >= 1 && len(p.Kids) <= 4
	var parts [][]string
	for _, kid := range p.Kids {
		inner, ok := writeByHand(kid, level+1)
		fits = fits && ok && !slices.Contains(inner, "--"+boundary) && !slices.Contains(inner, "--"+boundary+"--")
		parts = append(parts, inner)
	}
	return slices.Concat(lines, []string{""}, joinByText(parts, boundary)), fits
}

// readByHand is another way to read a part, which may be one that is not
// valid.
func readByHand(lines []string) (impl.Part, bool) {
	empty := slices.Index(lines, "")
	if empty < 0 {
		return impl.Part{}, false
	}
	var p impl.Part
	if empty > 0 {
		fields, ok := readByPattern(lines[:empty])
		if !ok {
			return impl.Part{}, false
		}
		p.Fields = fields
	}
	rest := lines[empty+1:]
	boundary := boundaryByForm(p.Fields)
	if boundary == "" {
		p.Body = slices.Clone(rest)
		return p, true
	}
	parts, ok := splitByPlaces(rest, boundary)
	for _, part := range parts {
		kid, found := readByHand(part)
		ok = ok && found
		p.Kids = append(p.Kids, kid)
	}
	return p, ok
}

// leavesOf counts the parts without Kids, whatever they are.
func leavesOf(p impl.Part) int {
	if len(p.Kids) == 0 {
		return 1
	}
	count := 0
	for _, kid := range p.Kids {
		count += leavesOf(kid)
	}
	return count
}

// expectPart holds all that tells of a valid part against what is wanted, and
// reads its lines back.
func expectPart(t *testing.T, p impl.Part, want ...string) {
	t.Helper()
	if !impl.PartValid(p) {
		t.Errorf("PartValid(%q) = false", p)
	}
	if got, ok := impl.FormatPart(p); !ok || !slices.Equal(got, want) {
		t.Errorf("FormatPart(%q) = %q, %v, want %q", p, got, ok, want)
	}
	if got, want := impl.CountParts(p), leavesOf(p); got != want {
		t.Errorf("CountParts(%q) = %d, want %d", p, got, want)
	}
	expectPartOf(t, want, p)
	expectPlaces(t, p, p, nil)
}

// expectPlaces holds each part within p against the one at its path, and the
// places around it against none.
func expectPlaces(t *testing.T, whole impl.Part, p impl.Part, path []int) {
	t.Helper()
	if got, ok := impl.PartAt(whole, path); !ok || !equalMessages(got, p) {
		t.Errorf("PartAt(%q, %d) = %q, %v, want %q", whole, path, got, ok, p)
	}
	for i, kid := range p.Kids {
		expectPlaces(t, whole, kid, append(slices.Clone(path), i))
	}
	for _, number := range []int{-1, len(p.Kids)} {
		expectNoPlace(t, whole, append(slices.Clone(path), number))
		expectNoPlace(t, whole, append(slices.Clone(path), number, 0))
	}
}

func expectNoPlace(t *testing.T, p impl.Part, path []int) {
	t.Helper()
	if got, ok := impl.PartAt(p, path); ok || !noPart(got) {
		t.Errorf("PartAt(%q, %d) = %q, %v, want none", p, path, got, ok)
	}
}

// expectPartOf holds what is read from lines against what is wanted.
func expectPartOf(t *testing.T, lines []string, want impl.Part) {
	t.Helper()
	got, ok := impl.ParsePart(lines)
	if !ok || !equalMessages(got, want) {
		t.Errorf("ParsePart(%q) = %q, %v, want %q", lines, got, ok, want)
	}
	if !impl.PartSame(got, want) {
		t.Errorf("PartSame(%q, %q) = false", got, want)
	}
}

func expectNoPartOf(t *testing.T, lines ...string) {
	t.Helper()
	if got, ok := impl.ParsePart(lines); ok || !noPart(got) {
		t.Errorf("ParsePart(%q) = %q, %v, want none", lines, got, ok)
	}
}

// expectNoPart holds a part that is not valid against all that tells of it,
// alone and within another one.
func expectNoPart(t *testing.T, p impl.Part) {
	t.Helper()
	expectNothingOf(t, p)
	expectNothingOf(t, manyParts("outer", p))
	expectNothingOf(t, manyParts("outer", onePart("a"), p, onePart()))
}

func expectNothingOf(t *testing.T, p impl.Part) {
	t.Helper()
	if impl.PartValid(p) {
		t.Errorf("PartValid(%q) = true", p)
	}
	if got, ok := impl.FormatPart(p); ok || len(got) != 0 {
		t.Errorf("FormatPart(%q) = %q, %v", p, got, ok)
	}
	if got := impl.CountParts(p); got != 0 {
		t.Errorf("CountParts(%q) = %d", p, got)
	}
	expectNoBytes(t, p)
	expectNoPlace(t, p, nil)
	expectNoPlace(t, p, []int{0})
}

func expectBytes(t *testing.T, p impl.Part, want string) {
	t.Helper()
	if got, ok := impl.BodyBytes(p); !ok || got != want {
		t.Errorf("BodyBytes(%q) = %q, %v, want %q", p, got, ok, want)
	}
}

func expectNoBytes(t *testing.T, p impl.Part) {
	t.Helper()
	if got, ok := impl.BodyBytes(p); ok || got != "" {
		t.Errorf("BodyBytes(%q) = %q, %v, want none", p, got, ok)
	}
}

// expectPartByHand holds a part against the other writer, and reports whether
// it is valid.
func expectPartByHand(t *testing.T, p impl.Part) bool {
	t.Helper()
	want, ok := writeByHand(p, 1)
	if ok {
		expectPart(t, p, want...)
	} else {
		expectNothingOf(t, p)
	}
	return ok
}

// expectLinesByHand holds lines against the other reader and writer, and
// reports whether a part is written in them.
func expectLinesByHand(t *testing.T, lines []string) bool {
	t.Helper()
	p, ok := readByHand(lines)
	if ok {
		_, ok = writeByHand(p, 1)
	}
	if !ok {
		expectNoPartOf(t, lines...)
		return false
	}
	expectPartOf(t, lines, p)
	return expectPartByHand(t, p)
}

func TestLimitsOfMessages(t *testing.T) {
	if impl.MaxBody != 30 || impl.MaxKids != 4 || impl.MaxDepth != 3 {
		t.Errorf("MaxBody = %d, MaxKids = %d, MaxDepth = %d", impl.MaxBody, impl.MaxKids, impl.MaxDepth)
	}
}

func TestParts(t *testing.T) {
	from, subject := field("From", "ann@x.org"), field("Subject", "hello there, this is a longer value")
	expectPart(t, onePart("a"), "", "a")
	expectPart(t, fieldPart("From", "ann@x.org", "a", "b"), "From: ann@x.org", "", "a", "b")
	expectPart(t, withFields(onePart("", "a", "", ""), from, subject), "From: ann@x.org", "Subject: hello there, this is a longer", " value", "", "", "a", "", "")
	expectPart(t, fieldPart("A", "", "B: c", " d", "."), "A:", "", "B: c", " d", ".")
	expectPart(t, fieldPart("Content-Type", "text/plain", "--b0", "a", "--b0--"), "Content-Type: text/plain", "", "--b0", "a", "--b0--")
	expectPart(t, manyParts("b0", onePart("a")), "Content-Type: multipart/x; boundary=b0", "", "--b0", "", "a", "--b0--")
	mixed := impl.Part{Fields: []impl.Field{field("Content-Type", "multipart/mixed; boundary=b0")}, Kids: []impl.Part{onePart("a")}}
	expectPart(t, mixed, "Content-Type: multipart/mixed;", " boundary=b0", "", "--b0", "", "a", "--b0--")
	// The example of the document.
	expectPart(t, withFields(manyParts("b0", fieldPart("A", "b", "c"), onePart("d", "e")), from, from),
		"From: ann@x.org", "From: ann@x.org", "Content-Type: multipart/x; boundary=b0", "", "--b0", "A: b", "", "c", "--b0", "", "d", "e", "--b0--")
}

func TestPartsInParts(t *testing.T) {
	inner := manyParts("in", fieldPart("A", "1", "a"), onePart())
	expectPart(t, manyParts("out", onePart("b"), inner, inner),
		"Content-Type: multipart/x; boundary=out", "", "--out", "", "b",
		"--out", "Content-Type: multipart/x; boundary=in", "", "--in", "A: 1", "", "a", "--in", "", "--in--",
		"--out", "Content-Type: multipart/x; boundary=in", "", "--in", "A: 1", "", "a", "--in", "", "--in--", "--out--")
	for _, n := range []int{1, 2, 3, 4} {
		leaf := onePart("leaf", "")
		full := manyParts("full", slices.Repeat([]impl.Part{leaf}, n)...)
		whole := manyParts("whole", slices.Repeat([]impl.Part{full}, n)...)
		if !expectPartByHand(t, whole) || impl.CountParts(whole) != n*n {
			t.Errorf("%d times %d parts are counted as %d", n, n, impl.CountParts(whole))
		}
		expectPartByHand(t, manyParts("whole", append(slices.Repeat([]impl.Part{leaf}, n-1), full)...))
		expectPartByHand(t, manyParts("whole", append([]impl.Part{full}, slices.Repeat([]impl.Part{leaf}, n-1)...)...))
	}
}

func TestBodyWithoutLines(t *testing.T) {
	expectPart(t, impl.Part{}, "")
	expectPart(t, onePart([]string{}...), "")
	expectPart(t, fieldPart("A", "b"), "A: b", "")
	expectPart(t, fieldPart("A", ""), "A:", "")
	expectPart(t, onePart(""), "", "")
	expectPart(t, fieldPart("A", "b", ""), "A: b", "", "")
	expectPart(t, impl.Part{Fields: []impl.Field{}, Body: []string{}, Kids: []impl.Part{}}, "")
	expectPart(t, manyParts("b", impl.Part{}), "Content-Type: multipart/x; boundary=b", "", "--b", "", "--b--")
	expectPart(t, manyParts("b", fieldPart("A", ""), impl.Part{}, onePart("")),
		"Content-Type: multipart/x; boundary=b", "", "--b", "A:", "", "--b", "", "--b", "", "", "--b--")
	// Without the empty line, there is no part, and one line less is no Body.
	expectNoPartOf(t)
	expectNoPartOf(t, "A: b")
	expectNoPartOf(t, kindOf("b").Name+": "+kindOf("b").Value, "", "--b", "--b--")
	expectNoPartOf(t, kindOf("b").Name+": "+kindOf("b").Value, "", "--b", "", "--b", "--b--")
	expectNoPartOf(t, kindOf("b").Name+": "+kindOf("b").Value, "", "--b", "A: b", "--b--")
	expectNoBytes(t, impl.Part{})
	expectNoBytes(t, fieldPart("Content-Transfer-Encoding", "quoted-printable"))
	expectBytes(t, fieldPart("Content-Transfer-Encoding", "base64"), "")
}

func TestBytesOfBodies(t *testing.T) {
	for c := range 256 {
		s := string([]byte{byte(c)})
		for _, line := range []string{s, s + "a", "a" + s, "a" + s + "b"} {
			for _, body := range [][]string{{line}, {line, "z"}, {"", "z", line}} {
				p := onePart(body...)
				if c >= 32 && c <= 126 {
					expectPart(t, p, append([]string{""}, body...)...)
					expectPartByHand(t, deepPart(3, p))
				} else {
					expectNoPart(t, p)
					expectNoPartOf(t, append([]string{""}, body...)...)
					expectNoPartOf(t, "Content-Type: multipart/x; boundary=b", "", "--b", "", line, "--b--")
				}
			}
		}
	}
}

func TestLengthOfBodies(t *testing.T) {
	for _, n := range []int{0, 1, 28, 29, 30, 31, 32, 1000} {
		for _, line := range []string{"", "v", strings.Repeat(" ", 200)} {
			body := slices.Repeat([]string{line}, n)
			lines := append([]string{""}, body...)
			within := slices.Concat([]string{"Content-Type: multipart/x; boundary=b", "", "--b"}, lines, []string{"--b--"})
			if n <= 30 {
				expectPart(t, onePart(body...), lines...)
				expectPart(t, manyParts("b", onePart(body...)), within...)
			} else {
				expectNoPart(t, onePart(body...))
				expectNoPartOf(t, lines...)
				expectNoPartOf(t, within...)
			}
		}
	}
	// All the parts together may have more lines.
	thirty := onePart(slices.Repeat([]string{"v"}, 30)...)
	four := manyParts("four", thirty, thirty, thirty, thirty)
	expectPartByHand(t, manyParts("more", four, four, four, four))
	if got := impl.CountParts(manyParts("more", four, four, four, four)); got != 16 {
		t.Errorf("CountParts = %d, want 16", got)
	}
}

func TestLengthOfLinesOfBodies(t *testing.T) {
	for _, n := range []int{40, 41, 198, 199, 200, 201, 202, 100000} {
		line := strings.Repeat("v", n)
		for _, body := range [][]string{{line}, {line, "a"}, {"a", line}} {
			lines := append([]string{"A: b", ""}, body...)
			if n <= 200 {
				expectPart(t, fieldPart("A", "b", body...), lines...)
			} else {
				expectNoPart(t, fieldPart("A", "b", body...))
				expectNoPartOf(t, lines...)
			}
		}
	}
}

func TestFieldsOfParts(t *testing.T) {
	for n := 0; n <= 23; n++ {
		p := onePart("a")
		p.Fields = numbered(n)
		many := withFields(manyParts("b0", onePart("a")), numbered(max(n, 1)-1)...)
		var lines []string
		for _, f := range p.Fields {
			lines = append(lines, f.Name+":v")
		}
		if n <= 20 {
			if !expectPartByHand(t, p) || !expectPartByHand(t, many) || !expectPartByHand(t, manyParts("b1", p, many)) {
				t.Errorf("a part with %d fields is not valid", n)
			}
			expectPartOf(t, append(lines, "", "a"), p)
			continue
		}
		expectNoPart(t, p)
		expectNoPart(t, many)
		expectNoPartOf(t, append(lines, "", "a")...)
		expectNoPartOf(t, append(lines, "Content-Type: multipart/x; boundary=b", "", "--b", "", "--b--")...)
	}
	for _, f := range []impl.Field{
		{}, field("", "v"), field("1", "v"), field("A b", "v"), field("A:", "v"), field("A", " v"), field("A", "v "), field("A", " "), field("A", "\n"), field("A", "\xff"),
		field(strings.Repeat("n", 31), "v"), field("A", strings.Repeat("v", 151)), field("Content-Type", "multipart/mixed; boundary=b0 "),
	} {
		expectNoPart(t, impl.Part{Fields: []impl.Field{f}, Body: []string{"a"}})
		expectNoPart(t, impl.Part{Fields: []impl.Field{f}, Kids: []impl.Part{onePart("a")}})
		expectNoPart(t, impl.Part{Fields: []impl.Field{kindOf("b0"), f}, Kids: []impl.Part{onePart("a")}})
		expectNoPart(t, impl.Part{Fields: []impl.Field{field("A", "v"), f, field("B", "v")}})
	}
	for _, n := range []int{149, 150} {
		expectPart(t, fieldPart("A", strings.Repeat("v", n), "a"), "A: "+strings.Repeat("v", n), "", "a")
		expectPart(t, fieldPart(strings.Repeat("n", n-120), "v"), strings.Repeat("n", n-120)+": v", "")
	}
}

func TestNumberOfKids(t *testing.T) {
	for n := range 8 {
		kids := slices.Repeat([]impl.Part{onePart("a")}, n)
		lines := []string{"Content-Type: multipart/x; boundary=b", ""}
		for range n {
			lines = append(lines, "--b", "", "a")
		}
		lines = append(lines, "--b--")
		if n >= 1 && n <= 4 {
			expectPart(t, manyParts("b", kids...), lines...)
			continue
		}
		expectNoPart(t, manyParts("b", kids...))
		expectNoPartOf(t, lines...)
	}
	expectNoPart(t, manyParts("b", []impl.Part{}...))
	expectNothingOf(t, manyParts("b", make([]impl.Part, 100000)...))
	many := slices.Repeat([]string{"--b", "", "a"}, 100000)
	expectNoPartOf(t, slices.Concat([]string{"Content-Type: multipart/x; boundary=b", ""}, many, []string{"--b--"})...)
}

func TestKidsOrBody(t *testing.T) {
	kid := onePart("a")
	for _, p := range []impl.Part{
		{Kids: []impl.Part{kid}}, {Kids: []impl.Part{{}}}, {Kids: []impl.Part{kid, kid}, Body: []string{"a"}},
		{Fields: []impl.Field{kindOf("b")}, Body: []string{"a"}}, {Fields: []impl.Field{kindOf("b")}, Body: []string{"--b", "", "--b--"}},
		{Fields: []impl.Field{kindOf("b")}, Body: []string{""}, Kids: []impl.Part{kid}}, {Fields: []impl.Field{kindOf("b")}, Body: []string{"a"}, Kids: []impl.Part{kid, kid}},
		{Fields: []impl.Field{field("Content-Type", "text/plain")}, Kids: []impl.Part{kid}}, {Fields: []impl.Field{kindOf("b")}},
	} {
		expectNoPart(t, p)
		expectNoPart(t, manyParts("c", p))
	}
}

func TestDepthOfParts(t *testing.T) {
	for depth := 1; depth <= 6; depth++ {
		for _, leaf := range []impl.Part{{}, onePart("a"), fieldPart("A", "b", "", "c")} {
			p := deepPart(depth, leaf)
			want, _ := writeByHand(p, 1)
			if depth <= 3 {
				expectPart(t, p, want...)
				expectPart(t, withFields(p, field("X", "y")), append([]string{"X: y"}, want...)...)
				continue
			}
			expectNothingOf(t, p)
			expectNoPart(t, p)
			expectNoPartOf(t, want...)
			// The deepest one counts, wherever it is.
			expectNothingOf(t, manyParts("x", onePart("a"), deepPart(depth-1, leaf)))
			expectNothingOf(t, manyParts("x", manyParts("y", onePart("a"), deepPart(depth-2, leaf)), onePart("a")))
		}
	}
	expectNothingOf(t, deepPart(10000, onePart("a")))
	// Beside a part that is valid, the lines of one that is too deep count too.
	deep, _ := writeByHand(deepPart(3, onePart("a")), 1)
	expectPartOf(t, deep, deepPart(3, onePart("a")))
	expectNoPartOf(t, slices.Concat([]string{"Content-Type: multipart/mixed; boundary=x", "", "--x", "", "b", "--x"}, deep, []string{"--x--"})...)
	var opened []string
	for i := range 10000 {
		opened = append(opened, fmt.Sprintf("Content-Type: multipart/x; boundary=b%d", i), "", fmt.Sprintf("--b%d", i))
	}
	for i := range 10000 {
		opened = append(opened, fmt.Sprintf("--b%d--", 9999-i))
	}
	expectNoPartOf(t, opened...)
}

func TestBoundaryWithinAPart(t *testing.T) {
	for _, boundary := range []string{"b0", "B", "7", "12345678901234567890"} {
		for _, mark := range []string{"--" + boundary, "--" + boundary + "--"} {
			for _, leaf := range []impl.Part{onePart(mark), onePart("a", mark), onePart(mark, "a"), fieldPart("A", "b", "a", mark, "b")} {
				expectNothingOf(t, manyParts(boundary, leaf))
				expectNothingOf(t, manyParts(boundary, onePart("a"), leaf))
				expectNothingOf(t, manyParts(boundary, leaf, onePart("a")))
				// It is the same if the part is within another one.
				expectNothingOf(t, manyParts("x", manyParts(boundary, leaf)))
				expectNothingOf(t, manyParts(boundary, manyParts("x", leaf)))
				expectNothingOf(t, manyParts(boundary, manyParts("x", onePart("a"), leaf), onePart("a")))
				expectPartByHand(t, leaf)
				expectPartByHand(t, manyParts("other", leaf))
				expectPartByHand(t, manyParts("x", manyParts("y", leaf)))
			}
		}
		// The marks of the part within are lines too.
		expectNothingOf(t, manyParts(boundary, manyParts(boundary, onePart("a"))))
		expectNothingOf(t, manyParts(boundary, onePart("a"), manyParts(boundary, onePart("a"))))
		expectNothingOf(t, manyParts(boundary, manyParts("x", manyParts(boundary, onePart("a")))))
		expectNothingOf(t, manyParts("x", manyParts(boundary, manyParts(boundary, onePart("a")))))
		expectPartByHand(t, manyParts("x", manyParts(boundary, onePart("a")), manyParts(boundary, onePart("b"))))
	}
	expectPartByHand(t, manyParts("b0", manyParts("B0", onePart("a"))))
	expectPartByHand(t, manyParts("b0", manyParts("b00", onePart("a")), manyParts("b", onePart("--b00"))))
}

func TestLinesNearBoundaries(t *testing.T) {
	valid := 0
	for _, line := range []string{
		"", "-", "--", "---", "----", "b0", "-b0", "--b", "--b0-", "--b0---", "--b0----", "---b0", "----b0", "--B0", "--B0--", "--b00", "--b00--",
		"--b0 ", " --b0", "-- b0", "--b0 --", "--b0-- ", " --b0--", "--b1", "--b1--", "--b0--b0", "--b0", "--b0--",
	} {
		for _, p := range []impl.Part{manyParts("b0", onePart(line)), manyParts("b0", onePart("a", line, ""), onePart(line)), manyParts("b0", manyParts("b2", onePart(line)))} {
			if expectPartByHand(t, p) {
				valid++
			}
		}
	}
	if valid != 26*3 {
		t.Errorf("%d of the parts are valid", valid)
	}
	// A field may have the boundary in it, even where it is folded.
	long := strings.Repeat("x", 38)
	expectPart(t, manyParts("b", fieldPart("A", "--b")), "Content-Type: multipart/x; boundary=b", "", "--b", "A: --b", "", "--b--")
	expectPart(t, manyParts("b", fieldPart("A", long+" --b")), "Content-Type: multipart/x; boundary=b", "", "--b", "A: "+long, " --b", "", "--b--")
}

// valuesWithBoundary holds the boundary that a value of Content-Type has.
var valuesWithBoundary = map[string]string{
	"multipart/mixed; boundary=b0": "b0", "MULTIPART/Mixed;BOUNDARY=b0": "b0", `multipart/x ; a="; boundary=b1" ;  boundary = "b0"`: "b0",
	"multipart/x; boundary=12345678901234567890": "12345678901234567890", "multipart/x; boundary=B0; a=b": "B0",
	"multipart/mixed": "", "text/plain; boundary=b0": "", "multipart/mixed; boundary=": "", "multipart/mixed; boundary=b-0": "", `multipart/mixed; boundary="b 0"`: "",
	"multipart/x; boundary=123456789012345678901": "", "multipart/mixed; boundary=b0; boundary=b0": "", "multipart/mixed; boundary=b0;": "", "multipart; boundary=b0": "",
	"multipart/mixed boundary=b0": "", "": "", "b0": "", "multiparts/mixed; boundary=b0": "", "multipart/mixed; xboundary=b0": "", `multipart/mixed; boundary=""`: "",
	"multipart/mixed; boundary=b0; a=b; c=d; e=f": "b0", "multipart/mixed; boundary=b0; a=b; c=d; e=f; g=h": "",
}

func TestFieldsWithBoundary(t *testing.T) {
	for value, boundary := range valuesWithBoundary {
		for _, name := range []string{"Content-Type", "content-type", "CONTENT-TYPE", "cOnTeNt-tYpE"} {
			one, many := fieldPart(name, value, "a"), fieldPart(name, value)
			many.Kids = []impl.Part{onePart("a"), onePart("b")}
			if boundary == "" {
				expectNoPart(t, many)
			} else {
				expectNoPart(t, one)
				one, many = many, one
			}
			want, _ := writeByHand(one, 1)
			expectPart(t, one, want...)
			if boundary != "" && !slices.Contains(want, "--"+boundary) {
				t.Errorf("the other writer finds no boundary in %q", value)
			}
			// Another field of the same name changes nothing, if it is behind.
			expectPartByHand(t, withFields(one, field("Content-Types", "multipart/mixed; boundary=b9"), field("Content", "multipart/mixed; boundary=b9")))
			one.Fields = append(one.Fields, kindOf("b9"), field("content-type", "text/plain"))
			expectPartByHand(t, one)
		}
	}
	plain, mixed := field("Content-Type", "text/plain"), kindOf("b0")
	kids := []impl.Part{onePart("a")}
	expectPart(t, impl.Part{Fields: []impl.Field{plain, mixed}, Body: []string{"a"}}, "Content-Type: text/plain", "Content-Type: multipart/x; boundary=b0", "", "a")
	expectPart(t, impl.Part{Fields: []impl.Field{mixed, plain}, Kids: kids}, "Content-Type: multipart/x; boundary=b0", "Content-Type: text/plain", "", "--b0", "", "a", "--b0--")
	expectNoPart(t, impl.Part{Fields: []impl.Field{plain, mixed}, Kids: kids})
	expectNoPart(t, impl.Part{Fields: []impl.Field{mixed, plain}, Body: []string{"a"}})
	expectPart(t, impl.Part{Fields: []impl.Field{mixed, kindOf("b1")}, Kids: []impl.Part{onePart("--b1")}},
		"Content-Type: multipart/x; boundary=b0", "Content-Type: multipart/x; boundary=b1", "", "--b0", "", "--b1", "--b0--")
}

func TestParsePart(t *testing.T) {
	expectPartOf(t, []string{""}, impl.Part{})
	expectPartOf(t, []string{"", ""}, onePart(""))
	expectPartOf(t, []string{"A:b", " c", "", "d"}, fieldPart("A", "b c", "d"))
	expectPartOf(t, []string{"A:", "", "B: c", "", "d"}, fieldPart("A", "", "B: c", "", "d"))
	expectPartOf(t, []string{"A: b", " ", "", "c"}, fieldPart("A", "b", "c"))
	head := []string{"content-type: Multipart/Mixed;", "  BOUNDARY=b0 ", ""}
	want := manyParts("b0", fieldPart("A", "b", "c"), onePart("d"))
	want.Fields = []impl.Field{field("content-type", "Multipart/Mixed;  BOUNDARY=b0")}
	lines := []string{"--b0", "A: b", "", "c", "--b0", "", "d", "--b0--"}
	expectPartOf(t, slices.Concat(head, lines), want)
	// The lines before the first part and behind the end are left out.
	for _, around := range [][]string{{""}, {"", ""}, {"a"}, {"A: b", "", "--b1"}, {"--b0--"}, {"\xff\n"}, {strings.Repeat("v", 201)}, slices.Repeat([]string{"a"}, 1000)} {
		expectPartOf(t, slices.Concat(head, around, lines), want)
		expectPartOf(t, slices.Concat(head, lines, around), want)
		expectPartOf(t, slices.Concat(head, around, lines, around), want)
	}
	expectPartOf(t, slices.Concat(head, lines, []string{"--b0", "x"}, lines), want)
}

func TestParsePartOfOtherLines(t *testing.T) {
	const mixed = "Content-Type: multipart/x; boundary=b0"
	for _, lines := range [][]string{
		nil, {"a"}, {"A: b"}, {" "}, {"A: b", " "}, {"A: b", "c: d"}, {"\n"}, {"\r"}, {"A: b", "\r"}, // no empty line
		{"a", ""}, {" A: b", ""}, {"A: b", "c", ""}, {"A b", "", "c"}, {"1: b", "", ""}, {"A : b", ""}, {" ", ""}, {":", ""}, {"A: \xff", ""}, {"A: b\n", ""}, {"\tA: b", ""}, // no fields
		{"", "\t"}, {"", "a\n"}, {"", "\xff"}, {"", "a", "\x00"}, {"A: b", "", "c\r"}, {"", strings.Repeat("v", 201)}, // no texts
		{mixed}, {mixed, ""}, {mixed, "", "a"}, {mixed, "", "--b0"}, {mixed, "", "--b0--"}, {mixed, "", "--b0", ""}, {mixed, "", "--b0--", "--b0", ""}, {mixed, "", "--b0", "", "a"}, // no end
		{mixed, "", "--b0", "", "--b1--"}, {mixed, "", "--B0", "", "--B0--"}, {mixed, "", "--b0 ", "", "--b0--"}, {mixed, "", "--b0", "", "--b0-"}, {mixed, "--b0", "", "a", "--b0--"},
		{mixed, "", "--b0", "--b0--"}, {mixed, "", "--b0", "a", "--b0--"}, {mixed, "", "--b0", "", "a", "--b0", "--b0--"}, {mixed, "", "--b0", "", "--b0", "b", "--b0--"}, // no part within
		{mixed, "", "--b0", "", "\xff", "--b0--"}, {mixed, "", "--b0", "a", "", "--b0--"}, {mixed, "", "--b0", " A: b", "", "--b0--"}, {mixed, "", "--b0", "A: b", "--b0", "", "--b0--"},
		{mixed, "", "--b0", mixed, "", "--b0", "", "a", "--b0--", "--b0--"}, {mixed, "", "--b0", mixed, "", "--b0--"}, {mixed, "", "--b0", mixed, "", "--b0", "", "--b0--"}, // the same boundary
	} {
		expectNoPartOf(t, lines...)
		if expectLinesByHand(t, lines) {
			t.Errorf("the other reader finds a part in %q", lines)
		}
		within := slices.Concat([]string{"Content-Type: multipart/mixed; boundary=x", "", "--x"}, lines, []string{"--x--"})
		expectNoPartOf(t, within...)
		expectNoPartOf(t, slices.Concat(within[:2], []string{"--x", "", "a"}, within[2:])...)
	}
	expectNoPartOf(t, slices.Repeat([]string{"A: b"}, 100000)...)
	expectNoPartOf(t, append(slices.Repeat([]string{"A: b"}, 100000), "")...)
	expectNoPartOf(t, slices.Repeat([]string{""}, 100000)...)
}

func TestMessagesOfPieces(t *testing.T) {
	heads := [][]string{nil, {"Content-Type: multipart/a; boundary=b0", ""}, {"Content-Type: multipart/a; boundary=b0", "", "--b0"}}
	pieces := []string{"", "--b0", "--b0--", "A: b", "Content-Type: multipart/a; boundary=b1", "--b1", "--b1--"}
	read, many := 0, 0
	for number := range 7 {
		for code := range pow(len(pieces), number) {
			lines := make([]string, number)
			for i := range lines {
				lines[i] = pieces[code%len(pieces)]
				code /= len(pieces)
			}
			for _, head := range heads {
				if expectLinesByHand(t, slices.Concat(head, lines)) {
					read++
					if len(head) > 0 {
						many++
					}
				}
			}
		}
	}
	if read < 10000 || many < 1000 {
		t.Errorf("%d of the lines are parts, %d of them with others", read, many)
	}
}

func TestMessagesWithOneSlip(t *testing.T) {
	p := withFields(manyParts("b0", fieldPart("A", strings.Repeat("x", 40)+" y", "", "a"), withFields(manyParts("b1", onePart("b"), onePart()), field("C", "")), onePart("--b2")), field("From", "a@b"))
	lines, ok := writeByHand(p, 1)
	if !ok || !expectLinesByHand(t, lines) {
		t.Fatalf("%q is no part", p)
	}
	slips := []string{"", " ", "a", "A: b", " A: b", "--b0", "--b0--", "--b1", "--b1--", "--b2", "--b2--", "Content-Type: a/b", "Content-Type: multipart/x; boundary=b2", "Content-Type: multipart/x; boundary=b0", "\t"}
	for at := 0; at <= len(lines); at++ {
		expectLinesByHand(t, lines[:at])
		expectLinesByHand(t, lines[at:])
		for _, slip := range slips {
			expectLinesByHand(t, slices.Insert(slices.Clone(lines), at, slip))
			if at < len(lines) {
				changed := slices.Clone(lines)
				changed[at] = slip
				expectLinesByHand(t, changed)
			}
		}
		if at < len(lines) {
			expectLinesByHand(t, slices.Delete(slices.Clone(lines), at, at+1))
		}
	}
}

// randomPart makes a part that is valid, but that a boundary may be in it.
func randomPart(random *rand.Rand, level int) impl.Part {
	var p impl.Part
	names := []string{"A", "To", "Subject", "X-Long-Name-With-30-Bytes-0123"}
	for range random.Intn(4) {
		value := strings.Repeat("v", random.Intn(50)) + strings.Repeat(" ww", random.Intn(30))
		p.Fields = append(p.Fields, field(names[random.Intn(len(names))], strings.Trim(value, " ")))
	}
	if level < 3 && random.Intn(3) > 0 {
		p.Fields = slices.Insert(p.Fields, random.Intn(len(p.Fields)+1), kindOf(fmt.Sprintf("b%d", random.Intn(6))))
		for range 1 + random.Intn(4) {
			p.Kids = append(p.Kids, randomPart(random, level+1))
		}
		return p
	}
	lines := []string{"", "", " ", ".", "..", "A: b", " c", "From x", "--", "--b", "--b1-", "--b7", "caf=C3=A9", strings.Repeat("z", 200)}
	for range random.Intn(31) * random.Intn(2) {
		p.Body = append(p.Body, lines[random.Intn(len(lines))])
	}
	if random.Intn(30) == 0 {
		p.Body = append(p.Body, "--b3")
	}
	return p
}

func TestMessagesAreReadBack(t *testing.T) {
	random := rand.New(rand.NewSource(8))
	valid, deep := 0, 0
	for range 4000 {
		p := randomPart(random, 1)
		if !expectPartByHand(t, p) {
			continue
		}
		valid++
		for _, kid := range p.Kids {
			if len(kid.Kids) > 0 {
				deep++
				break
			}
		}
		lines, _ := impl.FormatPart(p)
		again, _ := impl.ParsePart(lines)
		if twice, ok := impl.FormatPart(again); !ok || !slices.Equal(twice, lines) {
			t.Errorf("FormatPart(%q) = %q, %v, want %q", again, twice, ok, lines)
		}
	}
	if valid < 2000 || deep < 500 {
		t.Errorf("%d of the parts are valid, %d of them deep", valid, deep)
	}
}

func TestCountParts(t *testing.T) {
	one := onePart("a")
	two := manyParts("two", one, one)
	for _, c := range []struct {
		p    impl.Part
		want int
	}{
		{impl.Part{}, 1}, {one, 1}, {fieldPart("A", "b"), 1}, {manyParts("x", one), 1}, {deepPart(3, one), 1}, {two, 2}, {manyParts("x", one, two), 3},
		{manyParts("x", two, two, two, two), 8}, {manyParts("x", two, one, two, one), 6}, {manyParts("x", one, one, one, one), 4},
		{deepPart(4, one), 0}, {manyParts("two", two), 0}, {manyParts("x"), 0}, {onePart("\n"), 0}, {manyParts("x", two, onePart("\n")), 0}, {manyParts("x", one, one, one, one, one), 0},
	} {
		if got := impl.CountParts(c.p); got != c.want {
			t.Errorf("CountParts(%q) = %d, want %d", c.p, got, c.want)
		}
	}
}

func TestPartAt(t *testing.T) {
	a, b, c := onePart("a"), fieldPart("B", "b", ""), onePart("c")
	inner := manyParts("in", b, c)
	whole := manyParts("out", a, inner, c)
	for _, place := range []struct {
		path []int
		want impl.Part
	}{
		{nil, whole}, {[]int{}, whole}, {[]int{0}, a}, {[]int{1}, inner}, {[]int{2}, c}, {[]int{1, 0}, b}, {[]int{1, 1}, c},
	} {
		if got, ok := impl.PartAt(whole, place.path); !ok || !equalMessages(got, place.want) || !impl.PartSame(got, place.want) {
			t.Errorf("PartAt(%d) = %q, %v, want %q", place.path, got, ok, place.want)
		}
	}
	least, most := -1<<63, 1<<63-1
	for _, path := range [][]int{
		{3}, {4}, {-1}, {-2}, {-3}, {least}, {most}, {0, 0}, {2, 0}, {1, 2}, {1, -1}, {1, least}, {1, most}, {1, 0, 0}, {1, 1, 0}, {0, -1}, {-1, 0}, {3, 0}, {1, 1, -1}, make([]int, 100000),
	} {
		expectNoPlace(t, whole, path)
	}
	expectNoPlace(t, a, []int{0})
	expectNoPlace(t, a, []int{-1})
	expectNoPlace(t, impl.Part{}, []int{0})
	// A part that is not valid has no part anywhere, even one that is valid.
	expectNoPlace(t, manyParts("out", a, onePart("--out")), []int{0})
	expectNoPlace(t, impl.Part{Kids: []impl.Part{a}}, []int{0})
	expectNoPlace(t, deepPart(4, a), []int{0})
}

func TestPartSame(t *testing.T) {
	a, b := onePart("a"), onePart("b")
	all := []impl.Part{
		{}, a, b, onePart(""), onePart("", ""), onePart("a", "b"), onePart("b", "a"), onePart("A"), onePart("a "), onePart("ab"),
		fieldPart("A", "b"), fieldPart("a", "b"), fieldPart("A", "B"), fieldPart("A", "b", "a"), fieldPart("A", "b", ""), fieldPart("", ""), fieldPart("", "\n"),
		withFields(fieldPart("A", "b"), field("A", "b")), withFields(fieldPart("A", "b"), field("C", "d")), withFields(fieldPart("C", "d"), field("A", "b")),
		{Kids: []impl.Part{{}}}, {Kids: []impl.Part{{}, {}}}, {Kids: []impl.Part{{Kids: []impl.Part{{}}}}}, {Kids: []impl.Part{a}}, {Kids: []impl.Part{a, b}}, {Kids: []impl.Part{b, a}},
		{Kids: []impl.Part{a}, Body: []string{"a"}}, {Kids: []impl.Part{a, a}}, {Kids: []impl.Part{a, a, a}}, {Kids: []impl.Part{a, a, b}}, {Kids: []impl.Part{b, a, a}},
		manyParts("b0", a), manyParts("b1", a), manyParts("B0", a), manyParts("b0", b), manyParts("b0", a, a), manyParts("b0", a, b), manyParts("b0"),
		deepPart(3, a), deepPart(3, b), deepPart(4, a), deepPart(9, a), deepPart(9, b), deepPart(9, fieldPart("\xff", "", "a")), onePart("\xff"), onePart(slices.Repeat([]string{"a"}, 100)...),
		manyParts("b0", manyParts("b0", a), a), manyParts("b0", a, manyParts("b0", a)), manyParts("b0", manyParts("b0", a, a)), manyParts("b0", manyParts("b0", a), b),
	}
	for i, p := range all {
		for j, q := range all {
			if got := impl.PartSame(p, copyMessage(q)); got != (i == j) {
				t.Errorf("PartSame(%q, %q) = %v", p, q, got)
			}
		}
	}
	empty := impl.Part{Fields: []impl.Field{}, Body: []string{}, Kids: []impl.Part{}}
	if !impl.PartSame(empty, impl.Part{}) || !impl.PartSame(impl.Part{}, empty) || !impl.PartSame(impl.Part{Kids: []impl.Part{empty}}, impl.Part{Kids: []impl.Part{{}}}) {
		t.Error("PartSame tells nil from empty")
	}
}

// circle makes a part that has itself among its Kids, a number of levels below.
// None of these parts is printed, since that would not end.
func circle(levels int) impl.Part {
	first := make([]impl.Part, 1)
	kids := first
	for range levels - 1 {
		next := make([]impl.Part, 1)
		kids[0] = manyParts("b", next...)
		kids[0].Kids = next
		kids = next
	}
	kids[0] = manyParts("b")
	kids[0].Kids = first
	return first[0]
}

func TestPartsWithinThemselves(t *testing.T) {
	for levels := 1; levels <= 5; levels++ {
		p := circle(levels)
		if impl.PartValid(p) || impl.CountParts(p) != 0 {
			t.Errorf("a circle of %d is valid", levels)
		}
		if lines, ok := impl.FormatPart(p); ok || len(lines) != 0 {
			t.Errorf("a circle of %d has lines", levels)
		}
		if got, ok := impl.PartAt(p, []int{0, 0}); ok || !noPart(got) {
			t.Errorf("a circle of %d has parts", levels)
		}
		expectNoBytesOfCircle(t, p)
		for others := 1; others <= 5; others++ {
			other := circle(others)
			if !impl.PartSame(p, other) || !impl.PartSame(other, p) {
				t.Errorf("circles of %d and %d differ", levels, others)
			}
			// On some level that both reach, one of the two is another one.
			other.Kids[0].Body = []string{"a"}
			if impl.PartSame(p, other) || impl.PartSame(other, p) {
				t.Errorf("circles of %d and %d do not differ", levels, others)
			}
		}
		for depth := 1; depth <= 7; depth++ {
			if impl.PartSame(p, deepPart(depth, onePart())) || impl.PartSame(manyParts("b", deepPart(depth, onePart())), p) {
				t.Errorf("a circle of %d is one of %d parts", levels, depth)
			}
		}
	}
}

func expectNoBytesOfCircle(t *testing.T, p impl.Part) {
	t.Helper()
	if b, ok := impl.BodyBytes(p); ok || b != "" {
		t.Errorf("a circle has the bytes %q", b)
	}
}

// Parts of the same memory are not looked at as often as they are met, and
// deep ones are not too deep.
func TestPartsOfTheSameMemory(t *testing.T) {
	wide := func(leaf impl.Part) impl.Part {
		for range 60 {
			leaf = impl.Part{Kids: []impl.Part{leaf, leaf, leaf}}
			leaf.Kids[1], leaf.Kids[2] = leaf.Kids[0], leaf.Kids[0]
		}
		return leaf
	}
	if !impl.PartSame(wide(onePart("a")), wide(onePart("a"))) || impl.PartSame(wide(onePart("a")), wide(onePart("b"))) {
		t.Error("PartSame does not find out about wide parts")
	}
	deep := func(leaf impl.Part) impl.Part {
		for range 300000 {
			leaf = impl.Part{Kids: []impl.Part{leaf}}
		}
		return leaf
	}
	if !impl.PartSame(deep(onePart("a")), deep(onePart("a"))) || impl.PartSame(deep(onePart("a")), deep(onePart("b"))) {
		t.Error("PartSame does not find out about deep parts")
	}
	if impl.PartValid(wide(onePart("a"))) || impl.PartValid(deep(onePart("a"))) {
		t.Error("parts without boundaries are valid")
	}
	three := manyParts("b0", onePart("a"), onePart("b"), onePart("c"))
	if got := three; impl.PartSame(impl.Part{Kids: three.Kids[:2]}, impl.Part{Kids: three.Kids}) || !impl.PartSame(got, three) || impl.PartSame(impl.Part{Kids: three.Kids[1:]}, impl.Part{Kids: three.Kids[:2]}) {
		t.Error("PartSame takes the same memory for the same parts")
	}
}

func TestBodyBytes(t *testing.T) {
	const name = "Content-Transfer-Encoding"
	for _, c := range []struct {
		value, other string
		body         []string
		want         string
	}{
		{"7bit", "7BIT", []string{"caf=C3=A9", " b "}, "caf=C3=A9\n b "}, {"7bit", "7Bit", []string{""}, ""}, {"7bit", "7bIT", []string{"", ""}, "\n"},
		{"7bit", "7biT", []string{"YT1i", "YT1i="}, "YT1i\nYT1i="}, {"7bit", "7bit", []string{strings.Repeat("v", 40)}, strings.Repeat("v", 40)},
		{"quoted-printable", "Quoted-Printable", []string{"caf=C3=A9", " =", "b"}, "caf\xc3\xa9\n b"}, {"quoted-printable", "QUOTED-PRINTABLE", []string{""}, ""},
		{"quoted-printable", "quoted-printablE", []string{strings.Repeat("v", 200)}, strings.Repeat("v", 200)},
		{"base64", "BASE64", []string{"YT1i"}, "a=b"}, {"base64", "Base64", []string{""}, ""}, {"base64", "basE64", nil, ""}, {"base64", "bAse64", []string{"Y", "", "T1", "i"}, "a=b"}, {"base64", "base64", []string{"AP8="}, "\x00\xff"},
	} {
		for _, value := range []string{c.value, c.other} {
			for _, n := range []string{name, "content-transfer-encoding", "CONTENT-TRANSFER-ENCODING"} {
				p := fieldPart(n, value, c.body...)
				expectBytes(t, p, c.want)
				expectBytes(t, withFields(p, field("Subject", "a"), field("Content-Type", "text/plain"), field("Content-Transfer", "base64")), c.want)
				// The first such field counts.
				p.Fields = append(p.Fields, field(name, "quoted-printable"), field(name, "base64"), field(name, "x"))
				expectBytes(t, p, c.want)
				expectNoBytes(t, withFields(p, field(name, "8bit")))
			}
		}
	}
	// Without the field, the lines are the bytes.
	expectBytes(t, onePart("caf=C3=A9", "YT1i"), "caf=C3=A9\nYT1i")
	expectBytes(t, onePart(""), "")
	expectBytes(t, withFields(onePart("=41"), field("Content-Type", "text/plain"), field("Content-Transfer-Encodings", "quoted-printable"), field("Transfer-Encoding", "base64")), "=41")
	expectBytes(t, fieldPart("Content-Type", "multipart/mixed", "--b0"), "--b0")
}

func TestBodiesThatAreNoBytes(t *testing.T) {
	const name = "Content-Transfer-Encoding"
	for _, value := range []string{"", "8bit", "binary", "7 bit", "7bit;", "bit", "7", "quoted", "quoted printable", "quoted-printable.", `"base64"`, "base-64", "base", "64", "base64 x", "0", "1", "2", "\u212a", "plain", "7bit, base64"} {
		for _, body := range [][]string{nil, {""}, {"a"}, {"YT1i"}} {
			expectNoBytes(t, fieldPart(name, value, body...))
			expectNoBytes(t, withFields(fieldPart(name, "7bit", body...), field(name, value)))
		}
	}
	long := strings.Repeat("v", 41)
	for _, p := range []impl.Part{
		onePart(), onePart(long), onePart("a", long), onePart("\n"), onePart("\xff"), fieldPart(name, "7bit"), fieldPart(name, "7bit", long), fieldPart("A", "b"),
		fieldPart(name, "quoted-printable"), fieldPart(name, "quoted-printable", "="), fieldPart(name, "quoted-printable", "=4"), fieldPart(name, "quoted-printable", "=c3"), fieldPart(name, "quoted-printable", "a", "b="), fieldPart(name, "quoted-printable", "\t"),
		fieldPart(name, "base64", "YT1"), fieldPart(name, "base64", "YT1i "), fieldPart(name, "base64", "Y==="), fieldPart(name, "base64", "YT1i="), fieldPart(name, "base64", "YR=="), fieldPart(name, "base64", "caf\xc3\xa9"),
		fieldPart(name, "base64", slices.Repeat([]string{"YT1i"}, 31)...), fieldPart(name, "7bit", slices.Repeat([]string{"a"}, 31)...), {Body: []string{"a"}, Kids: []impl.Part{onePart("a")}},
		withFields(onePart("a"), field("A", " ")), withFields(onePart("a"), numbered(21)...), fieldPart(name, "7bit ", "a"), fieldPart(name, " base64", "YT1i"), fieldPart("Content-Type", "multipart/x; boundary=b", "a"),
	} {
		expectNoBytes(t, p)
	}
	for _, code := range []string{"7bit", "quoted-printable", "base64", ""} {
		for _, p := range []impl.Part{manyParts("b0", onePart("a")), manyParts("b0", onePart("")), manyParts("b0", onePart())} {
			expectPartByHand(t, withFields(p, field(name, code)))
			expectNoBytes(t, withFields(p, field(name, code)))
		}
	}
	expectNoBytes(t, manyParts("b0", onePart("a")))
	// The limit of bytes counts what is read.
	for _, n := range []int{99, 100, 101} {
		letters, triples := cutEvery(strings.Repeat("QUJD", n), 40), cutEvery(strings.Repeat("=41=42=43", n), 99)
		if n > 100 {
			expectNoBytes(t, fieldPart(name, "base64", letters...))
			expectNoBytes(t, fieldPart(name, "quoted-printable", strings.Split(strings.Join(triples, "=\n"), "\n")...))
			continue
		}
		expectBytes(t, fieldPart(name, "base64", letters...), strings.Repeat("ABC", n))
		expectBytes(t, fieldPart(name, "quoted-printable", strings.Split(strings.Join(triples, "=\n"), "\n")...), strings.Repeat("ABC", n))
	}
	for _, n := range []int{26, 27, 28} {
		body := append(slices.Repeat([]string{strings.Repeat("v", 10)}, n), "w", "xy")
		if n > 27 {
			body[0] += "vvv"
		}
		if b := strings.Join(body, "\n"); len(b) > 300 {
			expectNoBytes(t, onePart(body...))
		} else {
			expectBytes(t, onePart(body...), b)
		}
	}
}

// textByHand is another way to make a message of a subject and bytes.
func textByHand(subject string, b string) (impl.Part, bool) {
	name, ok := encodeByCuts(subject)
	if !ok || len(name) > 150 || len(b) > 300 {
		return impl.Part{}, false
	}
	code := bestByLengths(b)
	value := []string{"7bit", "quoted-printable", "base64"}[code]
	body := [][]string{strings.Split(b, "\n"), quotedByCuts(b), baseByPackage(b)}[code]
	fields := []impl.Field{field("Subject", name), field("Content-Type", "text/plain; charset=utf-8"), field("Content-Transfer-Encoding", value)}
	return impl.Part{Fields: fields, Body: body}, len(body) <= 30
}

// expectText makes a message, holds it against the other one, and reads all of
// it back.
func expectText(t *testing.T, subject string, b string) bool {
	t.Helper()
	got, ok := impl.MakeText(subject, b)
	want, fits := textByHand(subject, b)
	if !fits {
		if ok || !noPart(got) {
			t.Errorf("MakeText(%q, %q) = %q, %v, want none", subject, b, got, ok)
		}
		return false
	}
	if !ok || !equalMessages(got, want) {
		t.Errorf("MakeText(%q, %q) = %q, %v, want %q", subject, b, got, ok, want)
	}
	lines, _ := impl.FormatPart(got)
	read, _ := impl.ParsePart(lines)
	expectPartByHand(t, want)
	expectBytes(t, read, b)
	value, _ := impl.GetField(read.Fields, "subject")
	if name, ok := impl.DecodeName(value); !ok || name != subject {
		t.Errorf("the subject %q is read back as %q, %v", subject, name, ok)
	}
	return true
}

func expectTextOf(t *testing.T, subject string, b string) {
	t.Helper()
	if !expectText(t, subject, b) {
		t.Errorf("the other writer makes no message of %q and %q", subject, b)
	}
}

func expectNoText(t *testing.T, subject string, b string) {
	t.Helper()
	if expectText(t, subject, b) {
		t.Errorf("the other writer makes a message of %q and %q", subject, b)
	}
}

func TestMakeText(t *testing.T) {
	for _, c := range []struct {
		subject, b string
		want       []string
	}{
		{"", "", []string{"Subject:", "Content-Type: text/plain; charset=utf-8", "Content-Transfer-Encoding: 7bit", "", ""}},
		{"hello", "a\n\nb", []string{"Subject: hello", "Content-Type: text/plain; charset=utf-8", "Content-Transfer-Encoding: 7bit", "", "a", "", "b"}},
		{"a", "--b0\n.", []string{"Subject: a", "Content-Type: text/plain; charset=utf-8", "Content-Transfer-Encoding: 7bit", "", "--b0", "."}},
		{"Zo\u00eb", "caf\u00e9 au lait\n", []string{"Subject: =?utf-8?q?Zo=C3=AB?=", "Content-Type: text/plain; charset=utf-8", "Content-Transfer-Encoding: quoted-printable", "", "caf=C3=A9 au lait", ""}},
		{" ", "\x00\xff", []string{"Subject: =?utf-8?q?_?=", "Content-Type: text/plain; charset=utf-8", "Content-Transfer-Encoding: base64", "", "AP8="}},
		{"hello there, this is a longer value", "a ", []string{"Subject: hello there, this is a longer", " value", "Content-Type: text/plain; charset=utf-8", "Content-Transfer-Encoding: 7bit", "", "a "}},
	} {
		expectTextOf(t, c.subject, c.b)
		p, ok := impl.MakeText(c.subject, c.b)
		if !ok {
			t.Errorf("MakeText(%q, %q) is false", c.subject, c.b)
		}
		expectPart(t, p, c.want...)
		expectPart(t, manyParts("b", p, p), slices.Concat([]string{"Content-Type: multipart/x; boundary=b", "", "--b"}, c.want, []string{"--b"}, c.want, []string{"--b--"})...)
	}
}

func TestBytesOfTexts(t *testing.T) {
	for c := range 256 {
		s := string([]byte{byte(c)})
		for _, b := range []string{s, s + s, "a" + s + "b", s + "a", "a" + s, strings.Repeat(s, 30), strings.Repeat("a", 39) + s + "b"} {
			expectText(t, s, b)
			expectText(t, "a"+s, b+"\n"+b)
			expectText(t, "a"+s+"b", b)
		}
		expectText(t, strings.Repeat(s, 120), s)
		expectText(t, strings.Repeat(s, 121), s)
	}
	random := rand.New(rand.NewSource(9))
	for range 3000 {
		b := make([]byte, random.Intn(302))
		for i := range b {
			b[i] = "aaaa bcd=\n\n\x00\xc3\xa9."[random.Intn(2+random.Intn(14))]
		}
		expectText(t, string(b[:min(len(b), random.Intn(60))]), string(b))
	}
}

func TestLengthOfTexts(t *testing.T) {
	for _, n := range []int{0, 1, 119, 120, 121, 122, 150, 151, 200, 100000} {
		subject := strings.Repeat("s", n)
		if n <= 120 {
			expectTextOf(t, subject, "a")
		} else {
			expectNoText(t, subject, "a")
		}
	}
	// A subject that needs code has room for less.
	lengths := map[int]bool{}
	for n := range 121 {
		for _, begin := range []string{"\xff", " ", "\xff\xff", "=?", "\xc3\xa9\xc3\xa9\xc3\xa9\xc3\xa9"} {
			subject := begin + strings.Repeat("s", max(n-len(begin), 0))
			value, _ := encodeByCuts(subject)
			lengths[len(value)] = true
			if expectText(t, subject, "a") != (len(value) <= 150) {
				t.Errorf("the subject %q is coded in %d bytes", subject, len(value))
			}
		}
	}
	if !lengths[149] || !lengths[150] || !lengths[151] {
		t.Error("no subjects near the limit are tried")
	}
	for _, n := range []int{298, 299, 300, 301, 302, 100000} {
		for _, unit := range []string{"a", "\x00", " ", "=", "caf\xc3\xa9 "} {
			b := strings.Repeat(unit, n)[:n]
			if n <= 300 {
				expectTextOf(t, "a", b)
			} else {
				expectNoText(t, "a", b)
			}
		}
	}
}

func TestLinesOfTexts(t *testing.T) {
	for n := 28; n <= 33; n++ {
		ends := strings.Repeat("\n", n-1)
		for _, b := range []string{ends, "a" + ends + "b", strings.Repeat("a\n", n-1), "\xff" + ends, ends + "=\x00", strings.Repeat("v", 78) + ends[2:], strings.Repeat("v", 78) + "w" + ends[2:]} {
			p, _ := impl.MakeText("a", b)
			if n > 31 && len(p.Body) > 0 {
				t.Errorf("a text of %d lines has the lines %q", n, p.Body)
			}
			if fits := expectText(t, "a", b); !strings.HasPrefix(b, "v") && fits != (n <= 30) {
				t.Errorf("whether %d lines are made is %v", n, fits)
			}
		}
	}
	expectTextOf(t, "a", strings.Repeat("\n", 29))
	expectNoText(t, "a", strings.Repeat("\n", 30))
	expectTextOf(t, "a", "\x00"+strings.Repeat("\n", 29))
	expectNoText(t, "a", "\x00"+strings.Repeat("\n", 30))
	// A line that goes on counts as well.
	expectTextOf(t, "a", strings.Repeat("v", 41)+strings.Repeat("\n", 28))
	expectNoText(t, "a", strings.Repeat("v", 41)+strings.Repeat("\n", 29))
	expectNoText(t, "a", strings.Repeat("\n", 300))
}

func TestMessagesLeaveArguments(t *testing.T) {
	lines := []string{"A: b", "Content-Type: multipart/x; boundary=b", "", "--b", "C: d", "", "e", "--b", "", "f", "--b--", "rest", "--b--"}
	kept := slices.Clone(lines)
	p, _ := impl.ParsePart(lines[:11])
	two, _ := impl.ParsePart(lines[:11])
	impl.ParsePart(lines[:10])
	plain, _ := impl.ParsePart(lines[5:9])
	overwriteMessage(plain)
	want := withFields(manyParts("b", fieldPart("C", "d", "e"), onePart("f")), field("A", "b"))
	want.Fields[1].Value = "multipart/x; boundary=b"
	if !slices.Equal(lines, kept) {
		t.Errorf("ParsePart changed its argument to %q", lines)
	}
	whole, _ := impl.PartAt(p, nil)
	kid, _ := impl.PartAt(p, []int{0})
	again, _ := impl.PartAt(p, []int{0})
	one, _ := impl.FormatPart(p)
	other, _ := impl.FormatPart(p)
	impl.CountParts(p)
	impl.BodyBytes(p)
	impl.BodyBytes(kid)
	impl.PartSame(p, two)
	if !equalMessages(p, want) || !equalMessages(two, want) || !equalMessages(whole, want) {
		t.Errorf("the argument became %q", p)
	}
	overwriteMessage(whole)
	overwriteMessage(kid)
	overwriteLines(one)
	if !equalMessages(p, want) || !equalMessages(again, want.Kids[0]) || len(other) != 11 || other[10] != "--b--" || other[6] != "e" {
		t.Errorf("results share memory: %q, %q, %q", p, again, other)
	}
	overwriteMessage(p)
	if !equalMessages(two, want) || !slices.Equal(lines, kept) {
		t.Errorf("results share memory: %q, %q", two, lines)
	}
	text, _ := impl.MakeText("a", "b\nc")
	overwriteMessage(text)
	if got, ok := impl.MakeText("a", "b\nc"); !ok || !slices.Equal(got.Body, []string{"b", "c"}) || got.Fields[2].Value != "7bit" {
		t.Errorf("results share memory: %q", got)
	}
}

// Memory behind the length of an argument is not written, and a result has no
// memory that another part of it has.
func TestMessagesKeepTheirMemory(t *testing.T) {
	body := []string{"a", "b", "rest"}
	fields := []impl.Field{field("A", "b"), field("Rest", "c")}
	kids := []impl.Part{{Fields: fields[:1], Body: body[:2]}, {Fields: fields[:1], Body: body[:1]}, onePart("rest")}
	heads := []impl.Field{kindOf("b0"), field("Rest", "d")}
	p := impl.Part{Fields: heads[:1], Kids: kids[:2]}
	want := copyMessage(p)
	lines, _ := impl.FormatPart(p)
	single, _ := impl.FormatPart(kids[0])
	overwriteLines(lines)
	overwriteLines(single)
	result, ok := impl.PartAt(p, nil)
	if !ok || !equalMessages(result, want) {
		t.Errorf("PartAt = %q, %v", result, ok)
	}
	for i := range result.Kids {
		result.Kids[i].Fields = append(result.Kids[i].Fields, field("X", "y"))
		result.Kids[i].Body = append(result.Kids[i].Body, "x")
		result.Kids[i].Fields[0] = field("Y", fmt.Sprint(i))
		result.Kids[i].Body[0] = fmt.Sprint(i)
	}
	if result.Kids[0].Body[0] != "0" || result.Kids[0].Fields[0].Value != "0" {
		t.Errorf("the parts of a result share memory: %q", result)
	}
	overwriteMessage(result)
	if !slices.Equal(body, []string{"a", "b", "rest"}) || !slices.Equal(fields, []impl.Field{field("A", "b"), field("Rest", "c")}) ||
		!slices.Equal(heads, []impl.Field{kindOf("b0"), field("Rest", "d")}) || !equalMessages(p, want) || !equalMessages(kids[2], onePart("rest")) {
		t.Errorf("the argument became %q", p)
	}
	read, _ := impl.ParsePart([]string{"Content-Type: multipart/x; boundary=b", "", "--b", "A: b", "", "c", "--b", "D: e", "", "f", "--b--"})
	first := copyMessage(read.Kids[0])
	overwriteMessage(read.Kids[1])
	_ = append(read.Kids[:1], impl.Part{})
	if !equalMessages(read.Kids[0], first) {
		t.Errorf("the parts of a result share memory: %q", read)
	}
}

// overwriteMessage writes into all memory that a part can reach.
func overwriteMessage(p impl.Part) {
	for _, kid := range p.Kids {
		overwriteMessage(kid)
	}
	for i := range p.Fields[:cap(p.Fields)] {
		p.Fields[:cap(p.Fields)][i] = field("over", "written")
	}
	overwriteLines(p.Body)
	for i := range p.Kids[:cap(p.Kids)] {
		p.Kids[:cap(p.Kids)][i] = onePart("overwritten")
	}
}

func overwriteLines(lines []string) {
	all := lines[:cap(lines)]
	for i := range all {
		all[i] = "overwritten"
	}
}
